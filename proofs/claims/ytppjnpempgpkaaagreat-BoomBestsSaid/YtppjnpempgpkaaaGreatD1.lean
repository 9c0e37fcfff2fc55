/- The net in memory: its cells, its marks; end, longer, isFree, isUsed, by their contracts. -/
import Derived.Test.YtppjnpempgpkaaaGreatC2
import Derived.Lib.SliceRun
import Derived.ArgAppend
import Derived.Laws.IdiomCopy
namespace Go.Proofs.YtppjnpempgpkaaaGreat
open Go.RowKit Go.Shelf
set_option linter.unusedVariables false
set_option linter.unusedSimpArgs false
def netC (W H : Nat) (vw vk : Value) (mo : Nat) (rd : List Bool) : List Value := [.int .i64 (W : Int), .int .i64 (H : Int), vw, vk, .map (some mo)] ++ rd.map .bool
structure NetB (X : World) (bn W H : Nat) (vw vk : Value) (mo : Nat) (rd : List Bool) : Prop where
  len : rd.length = 64
  blk : X.heap[bn]? = some (.cells (netC W H vw vk mo rd).toArray 115 (0, 0))
section
variable {X Y : World} {bn W H mo : Nat} {vw vk : Value} {rd : List Bool}
theorem NetB.lt (h : NetB X bn W H vw vk mo rd) : bn < X.heap.size := lt_of_blk h.blk
theorem NetB.head (h : NetB X bn W H vw vk mo rd) : X.cell? ⟨bn, 0, none⟩ = some (.int .i64 (W : Int)) ∧ X.cell? ⟨bn, 1, none⟩ = some (.int .i64 (H : Int)) ∧ X.cell? ⟨bn, 2, none⟩ = some vw ∧ X.cell? ⟨bn, 3, none⟩ = some vk ∧ X.cell? ⟨bn, 4, none⟩ = some (.map (some mo)) :=
  ⟨cell_of_blk h.blk rfl, cell_of_blk h.blk rfl, cell_of_blk h.blk rfl, cell_of_blk h.blk rfl, cell_of_blk h.blk rfl⟩
theorem netC_at {c : Nat} (hl : rd.length = 64) (hc : c < 64) : (netC W H vw vk mo rd).toArray[5 + c]? = some (.bool (isR rd c)) := by
  have h1 := isR_some (rd := rd) (c := c) (by rw [hl]; exact hc)
  rw [List.getElem?_toArray]
  unfold netC
  rw [List.getElem?_append_right (by simp)]
  simp [h1]
theorem NetB.at (h : NetB X bn W H vw vk mo rd) {c : Nat} (hc : c < 64) : X.cell? ⟨bn, 5 + c, none⟩ = some (.bool (isR rd c)) := cell_of_blk h.blk (netC_at h.len hc)
theorem NetB.free (h : NetB X bn W H vw vk mo rd) (o : Nat) : X.frozen? ⟨bn, o, none⟩ = false := frozen_of_blk h.blk o
theorem NetB.set (h : NetB X bn W H vw vk mo rd) (c : Nat) (v : Bool) : NetB (X.setCell ⟨bn, 5 + c, none⟩ (.bool v)) bn W H vw vk mo (rd.set c v) := by
  refine ⟨by rw [List.length_set, h.len], ?_⟩
  rw [set_blk h.blk]
  unfold netC
  rw [List.set_append_right _ _ (by simp), List.map_set]
  simp
theorem NetB.ext (h : NetB X bn W H vw vk mo rd) (hE : Ext X Y) : NetB Y bn W H vw vk mo rd := ⟨h.len, block_ext hE h.blk⟩
theorem NetB.turn (h : NetB X bn W H vw vk mo rd) {base : Nat} {row : Option Nat} (hg : X.grownBy Y row) (hr : ∀ r, row = some r → base ≤ r ∧ ∃ o : Obj, X.heap[r]? = some o ∧ o.isCells = false) : NetB Y bn W H vw vk mo rd := ⟨h.len, cells_turn h.blk hg hr⟩
theorem NetB.range (h : NetB X bn W H vw vk mo rd) : X.rangeAt bn 5 (rd.map .bool) := by
  intro j x hx
  have hj : j < rd.length := by have := (List.getElem?_eq_some_iff.1 hx).1; simpa using this
  rw [List.getElem?_map, isR_some hj] at hx
  cases hx
  exact h.at (by rw [← h.len]; exact hj)
theorem sets_size (b : Nat) : ∀ (vs : List Value) (o : Nat) (w : World), (w.setCells b o vs).heap.size = w.heap.size
  | [], o, w => rfl
  | v :: r, o, w => (sets_size b r (o + 1) _).trans (by simp [World.setCell])
theorem NetB.cleared (h : NetB X bn W H vw vk mo rd) : ∃ X1, (Builtin.clear_ #[152] 0 #[.slice (some ⟨bn, 5, none⟩) 64 64]).run Tryz.prog X = .ok (.tuple #[]) X1 ∧ NetB X1 bn W H vw vk mo no64 ∧ X.grownBy X1 (some bn) ∧ X1.heap.size = X.heap.size := by
  have hr := Lib.run_clear_slice (P := Tryz.prog) X 152 4 0 (.bool false) Tryz.underlying152 (fun w => by simp [zeroValue]; rfl) rfl rfl bn 5 64 64 (by omega) (fun j hj => by rw [h.at hj]; rfl) (fun j hj => h.free _)
  have hg := grown_sets bn (List.replicate 64 (.bool false)) 5 X
  refine ⟨_, hr, ⟨rfl, ?_⟩, hg, sets_size _ _ _ _⟩
  have hc : ∀ (l : List Value) (o : Nat) (cs : List Value) (Z : World), Z.heap[bn]? = some (.cells cs.toArray 115 (0, 0)) → (Z.setCells bn o l).heap[bn]? = some (.cells ((l.foldl (fun (st : List Value × Nat) v => (st.1.set st.2 v, st.2 + 1)) (cs, o)).1).toArray 115 (0, 0)) := by
    intro l
    induction l with
    | nil => intro o cs Z hZ; exact hZ
    | cons v l ih => intro o cs Z hZ; exact ih (o + 1) _ _ (set_blk hZ v)
  rw [hc _ _ _ _ h.blk]
  have hf : ∀ (n o : Nat) (p q : List Value), p.length = o → q.length = n → ((List.replicate n (Value.bool false)).foldl (fun (st : List Value × Nat) v => (st.1.set st.2 v, st.2 + 1)) (p ++ q, o)).1 = p ++ List.replicate n (Value.bool false) := by
    intro n
    induction n with
    | zero => intro o p q hp hq; rw [List.eq_nil_of_length_eq_zero hq]; rfl
    | succ n ih =>
      intro o p q hp hq
      cases q with
      | nil => simp at hq
      | cons x q =>
        rw [List.replicate_succ, List.foldl_cons]
        show ((List.replicate n (Value.bool false)).foldl _ ((p ++ x :: q).set o (.bool false), o + 1)).1 = _
        rw [List.set_append_right _ _ (by omega), show o - p.length = 0 from by omega, List.set_cons_zero, List.append_cons]
        rw [ih (o + 1) (p ++ [Value.bool false]) q (by simp [hp]) (by simpa using hq), List.append_assoc]
        rfl
  unfold netC
  rw [hf 64 5 _ (rd.map Value.bool) rfl (by rw [List.length_map, h.len])]
  rfl
end
theorem lastN_at {ws : List Nat} {n : Nat} (hn : ws.length = n + 1) : (natI ws)[n]? = some (lastN ws : Int) := by
  refine natI_at ?_
  unfold lastN
  rw [List.getLast?_eq_getElem?, hn, Nat.add_sub_cancel, List.getElem?_eq_getElem (by omega)]
  rfl
theorem end_c (v : Value) (o : Int) (ws : List Nat) (w : World) (hr : Reads w v (natI ws)) (hne : ws ≠ []) :
    Calls Tryz.prog 110 #[.agg #[v, .int .i64 o]] w fun e w' => e = .returned (.int .i64 (lastN ws : Int)) ∧ Ext w w' := by
  have E0 := Lib.hid ((Ext.refl w).alloc (.cells #[v, .int .i64 o] 60))
  obtain ⟨hl1, a, cap, rfl⟩ := hr.shape
  obtain ⟨n, hn⟩ : ∃ n, ws.length = n + 1 := ⟨ws.length - 1, by have := List.length_pos_iff.2 hne; omega⟩
  have hnl : (natI ws).length = n + 1 := by rw [natI_len]; exact hn
  rw [hnl] at hr hl1 E0 ⊢
  obtain ⟨b, off, z, rfl, hz, hcz⟩ := (hr.ext E0.out).at (show n < (natI ws).length by rw [hnl]; omega)
  rw [lastN_at hn] at hz
  cases hz
  have hna : (0 : Int) ≤ (n : Int) := by omega
  have hnb : (n : Int) < ((n + 1 : Nat) : Int) := by omega
  have hw1 : IntKind.i64.wrap (((n + 1 : Nat) : Int) - 1) = (n : Int) := by rw [show ((n + 1 : Nat) : Int) - 1 = n from by omega]; exact wrapi64 _ (by omega) (by omega)
  have hw2 : IntKind.i64.wrap ((n : Int) + 1 - 1) = (n : Int) := by rw [show (n : Int) + 1 - 1 = n from by omega]; exact wrapi64 _ (by omega) (by omega)
  have t3 : (n : Int).toNat = n := by omega
  clear hr hn hne hnl
  generalize lastN ws = x at *
  go_enter Tryz.func110, Tryz.ntmps110
  go_wp2
  go_ret
  exact ⟨rfl, E0.out⟩
theorem Tryz.info3 : (Tryz.prog.info? 3).map (fun i => (i.zero, i.size, i.bytes)) = some (some (.int .i64 0), 1, 8) := by kernel_rfl
theorem ownI_weak {e : TypeId} {B C : Nat} {w : World} {v : Value} {xs : List Int} (h : OwnI e B w v xs) (hb : C ≤ B) : OwnI e C w v xs := by
  obtain ⟨q1, q2⟩ := h
  refine ⟨q1, q2.imp id ?_⟩
  rintro ⟨g, cap, cur, rfl, hgb, r⟩
  exact ⟨g, cap, cur, rfl, Nat.le_trans hb hgb, r⟩
/-- append onto a list that has no more room. -/
theorem wp_appendGrow {o : Oper} {a : Act} {K : Act → World → Prop} {Q : Exit → Act → World → Prop} (w : World) (s t : Operand) (ho : o.op = .call { callee := .builtin .append, args := #[s, t], argTypes := #[22, 22] })
    (c : List Int) (b off n : Nat) (hs : a.eval s = .slice (some ⟨b, off, none⟩) n n) (hn : n = c.length) (hc : ∀ i, i < c.length → w.cell? ⟨b, off + i, none⟩ = some (.int .i64 (c[i]?.getD 0))) (hl : c.length ≤ 4000) (h1 : 1 ≤ c.length)
    (B : Nat) (x : Int) (hx : a.eval t = .slice (some ⟨B, 0, none⟩) 1 1) (h0 : w.cell? ⟨B, 0, none⟩ = some (.int .i64 x))
    (h : ∀ v' w', OwnI 3 w.heap.size w' v' (c ++ [x]) → Ext w w' → (∃ a cap, v' = .slice a (c.length + 1) cap) → K (a.put o.dst v') w') : o.wp Tryz.prog a w K Q := by
  subst hn
  obtain ⟨i0, hi0, hz0, hz1, hz2⟩ := info_parts Tryz.info3
  have hnews : ∀ j u, ([.int .i64 x] : List Value)[j]? = some u → w.cell? ((⟨B, 0, none⟩ : Addr).add j) = some u := fun j u hj => by
    rw [addr_add]
    match j, hj with
    | 0, hj => simp at hj; subst hj; exact h0
    | j + 1, hj => simp at hj
  obtain ⟨v', w', hrun, r1, r2⟩ := run_append_arg_grows (P := Tryz.prog) w 22 o.type 3 i0 _ 1 8 Tryz.underlying22 hi0 hz0 hz1 hz2 rfl (by omega) ⟨b, off, none⟩ c.length c.length (c.map (Value.int .i64)) (by simp) (fun j u hj => by
      rw [addr_add]
      obtain ⟨hj1, hj2⟩ := List.getElem?_eq_some_iff.1 hj
      rw [List.length_map] at hj1
      rw [hc j hj1, ← hj2]
      simp [List.getElem?_eq_getElem hj1]) ⟨B, 0, none⟩ 1 1 [.int .i64 x] rfl hnews (by omega) (by unfold maxLen; omega) (by omega)
  have hown : OwnI 3 w.heap.size w' v' (c ++ [x]) := by unfold OwnI; simpa using r1
  obtain ⟨a', cap', e', -⟩ := hown.shape
  have hE : Ext w w' := ⟨r2.os, r2.tape, r2.output, r2.size, fun i hi => r2.block i hi (by simp)⟩
  unfold Oper.wp
  simp [execOp, ho, resolve, invoke, builtin, hs, hx, hrun, Result.andThen]
  exact h _ _ hown hE ⟨a', cap', by simpa using e'⟩
set_option maxRecDepth 100000 in
theorem longer_c (v : Value) (o : Int) (ws : List Nat) (d : Nat) (w : World) (hr : Reads w v (natI ws)) (hne : ws ≠ []) (hl : ws.length ≤ 4000) :
    Calls Tryz.prog 111 #[.agg #[v, .int .i64 o], .int .i64 (d : Int)] w fun e w' => ∃ v', e = .returned (.agg #[v', .int .i64 (-1)]) ∧ OwnI 3 (w.heap.size + 2) w' v' (natI (ws ++ [d])) ∧ Ext w w' := by
  obtain ⟨hl1, a, cap, rfl⟩ := hr.shape
  obtain ⟨hc1, hc2⟩ := hr.cap
  obtain ⟨b, off, z, rfl, hz, hcz⟩ := hr.at (show 0 < (natI ws).length by rw [natI_len]; exact List.length_pos_iff.2 hne)
  have hcs : ∀ i, i < (natI ws).length → w.cell? ⟨b, off + i, none⟩ = some (.int .i64 ((natI ws)[i]?.getD 0)) := by
    obtain ⟨-, a', cap', e, -, h | ⟨b', off', e', h⟩⟩ := hr
    · exact absurd (by rw [h] at hz; cases hz) (fun h => h)
    · cases e; cases e'; exact h
  obtain ⟨n, hn⟩ : ∃ n, n = ws.length := ⟨_, rfl⟩
  have hnp : 1 ≤ n := by rw [hn]; exact List.length_pos_iff.2 hne
  have hni : natI (ws ++ [d]) = natI ws ++ [(d : Int)] := by simp [natI]
  have HNI := Lib.hid hni; have HCS := Lib.hid hcs
  have HN := Lib.hid (show n = (natI ws).length from by rw [natI_len]; exact hn)
  rw [natI_len, ← hn] at hc1 hl1 ⊢
  rw [← hn] at hl
  obtain ⟨w2, hw2⟩ : ∃ w2, w2 = ((w.alloc (.cells #[.slice (some ⟨b, off, none⟩) n cap, .int .i64 o] 60)).alloc (.cells #[.slice none 0 0, .int .i64 0] 60)).alloc (.cells #[.int .i64 (d : Int)] 3) := ⟨_, rfl⟩
  have E2 : Ext w w2 := by rw [hw2]; exact (((Ext.refl w).alloc _).alloc _).alloc _
  have b1 : w2.heap[w.heap.size + 1]? = some (.cells #[.slice none 0 0, .int .i64 0] 60 (0, 0)) := by rw [hw2]; exact block_ext ((Ext.refl _).alloc _) (heap_alloc_at (w.alloc _) _ (by simp))
  have b2 : w2.cell? ⟨w.heap.size + 1 + 1, 0, none⟩ = some (.int .i64 (d : Int)) := by rw [hw2]; exact cell_of_blk (heap_alloc_at ((w.alloc _).alloc _) _ (by simp)) rfl
  have HW := Lib.hid hw2; have HE2 := Lib.hid E2; have B1 := Lib.hid b1; have B2 := Lib.hid b2
  clear hr hn hne hcs hw2 E2 b1 b2 hz hcz hni
  go_enter Tryz.func111, Tryz.ntmps111
  go_wp2_with (first | (refine wpList_plain rfl fun K hK => ?_; refine wp_appendGrow _ (.tmp 13) (.tmp 15) rfl (natI ws) b off n rfl HN.out (by rw [← HW.out]; exact fun i hi => cell_ext HE2.out (HCS.out i hi)) (by have := HN.out; omega) (by have := HN.out; omega) (w.heap.size + 1 + 1) (d : Int) rfl (by rw [← HW.out]; exact B2.out) ?_; rw [← HW.out]; rintro v' w3 hv hE ⟨a', cap', rfl⟩; have HV := Lib.hid hv; have HZ2 := Lib.hid (show w2.heap.size = w.heap.size + 3 from by rw [HW.out]; simp); have HE3 := Lib.hid hE; obtain ⟨q0, q1⟩ := cells2 (block_ext hE B1.out); have f0 := frozen_of_blk (block_ext hE B1.out) 0; have f1 := frozen_of_blk (block_ext hE B1.out) 1; have hs2 := Lib.hid (set2 (block_ext hE B1.out) (.slice a' ((natI ws).length + 1) cap') (.int .i64 (-1))); clear hv hE; refine hK _ _ ?_; clear hK K) | fail)
  obtain ⟨r0, r1⟩ := cells2 hs2.out
  refine bodyPost_ret (by simp [results, Tryz.results111, go_sem, r0, r1]) rfl ⟨.slice a' ((natI ws).length + 1) cap', rfl, ?_, ?_⟩
  · rw [HNI.out]
    have := HZ2.out; have := HN.out
    refine ownI_weak ((HV.out.grown (grown_set _ (w.heap.size + 1) 0 _) (by omega)).grown (grown_set _ (w.heap.size + 1) 1 _) (by omega)) (by omega)
  · exact ((HE2.out.trans HE3.out).set (by omega) _ _).set (by omega) _ _
set_option maxRecDepth 100000 in
theorem isFree_c (bn mo n : Nat) (F : List Lk) (s : Lk) (w : World) (hm : w.cell? ⟨bn, 4, none⟩ = some (.map (some mo))) (hF : SMap w mo n F) (hs : Sm s) :
    Calls Tryz.prog 82 #[.pointer (some ⟨bn, 0, none⟩), .agg #[.int .i64 s.1, .int .i64 s.2]] w fun e w' => e = .returned (.bool (!inF F s)) ∧ Ext w w' := by
  obtain ⟨i, j⟩ := s
  obtain ⟨w1, hw1⟩ : ∃ w1, w1 = w.alloc (.cells #[.int .i64 i, .int .i64 j] 124) := ⟨_, rfl⟩
  have E1 : Ext w w1 := by rw [hw1]; exact (Ext.refl w).alloc _
  have b1 : w1.heap[w.heap.size]? = some (.cells #[.int .i64 i, .int .i64 j] 124 (0, 0)) := by rw [hw1]; exact heap_alloc_new w _
  have HLK := Lib.hid (fun (Z : World) (h : Ext w1 Z) => ((hF.ext E1).ext h).look (i, j) hs)
  have HM := Lib.hid (cell_ext E1 hm); have HW := Lib.hid hw1; have HE := Lib.hid E1; have B1 := Lib.hid b1
  clear hw1 E1 b1 hm hF hs
  generalize inF F (i, j) = fl at *
  dsimp only
  go_enter Tryz.func82, Tryz.ntmps82
  go_wp2
  rw [← HW.out]
  refine wp_region_order (fun X : World => X.cell? ⟨bn, 4, none⟩ = some (.map (some mo)) ∧ X.heap[w.heap.size]? = some (.cells #[.int .i64 i, .int .i64 j] 124 (0, 0)) ∧ Hid (Ext w1 X)) [0, 1, 2, 3, 4, 5, 6, 7] (by kernel_rfl) (by kernel_rfl) (by exact ⟨HM.out, B1.out, Lib.hid (Ext.refl _).drew⟩) (fun hHeld => ?_)
  simp only [opsIn, List.filterMap_cons, List.filterMap_nil, List.getElem?_toArray, List.getElem?_cons_succ, List.getElem?_cons_zero]
  refine' text_chunk 5 (by kernel_rfl) hHeld ?ck1 ?cr1
  case ck1 =>
    intro W hSw
    have hSW := hSw
    try dsimp only at hSW
    clear hSw
    obtain ⟨s1, s2, s3⟩ := hSW
    obtain ⟨d0, d1⟩ := cells2 s2
    simp only [List.take_succ_cons, List.take_zero, List.drop_succ_cons, List.drop_zero]
    repeat (go_big_quiet_step (fail))
    exact wpQuiet_nil rfl
  simp only [List.take_succ_cons, List.take_zero, List.drop_succ_cons, List.drop_zero]
  have hL : (Instr.lookup 113 (.map (some mo)) (.agg #[.int .i64 i, .int .i64 j]) false).run Tryz.prog w1.drew = .ok (.bool fl) w1.drew := HLK.out w1.drew hHeld.2.2.out
  refine text_call (by rfl) (by rfl) (fun K hK => ?_)
  go_simp
  all_goals (try (go_wp2_with fail))
  refine hK.out _ _ (by exact hHeld) (fun hHeld => ?_)
  clear hK K hL
  try simp only [Act.put, List.setIfInBounds_toArray, List.set_cons_zero, List.set_cons_succ]
  refine' text_chunk 2 (by kernel_rfl) hHeld ?ck2 ?cr2
  case ck2 =>
    intro W hSw
    have hSW := hSw
    try dsimp only at hSW
    clear hSw
    obtain ⟨s1, s2, s3⟩ := hSW
    obtain ⟨d0, d1⟩ := cells2 s2
    simp only [List.take_succ_cons, List.take_zero, List.drop_succ_cons, List.drop_zero]
    repeat (go_big_quiet_step (fail))
    exact wpQuiet_nil rfl
  simp only [List.take_succ_cons, List.take_zero, List.drop_succ_cons, List.drop_zero]
  refine text_done ?_
  clear hHeld
  go_wp2
  go_ret
  exact ⟨rfl, HE.out.trans (Ext.refl _).drew⟩
set_option maxRecDepth 100000 in
theorem isUsed_c (bn mo n : Nat) (F : List Lk) (s : Lk) (w : World) (hm : w.cell? ⟨bn, 4, none⟩ = some (.map (some mo))) (hF : SMap w mo n F) (hs : Sm s) :
    Calls Tryz.prog 93 #[.pointer (some ⟨bn, 0, none⟩), .agg #[.int .i64 s.1, .int .i64 s.2]] w fun e w' => e = .returned (.bool (inF F s)) ∧ Ext w w' := by
  obtain ⟨i, j⟩ := s
  obtain ⟨w1, hw1⟩ : ∃ w1, w1 = w.alloc (.cells #[.int .i64 i, .int .i64 j] 124) := ⟨_, rfl⟩
  have E1 : Ext w w1 := by rw [hw1]; exact (Ext.refl w).alloc _
  have b1 : w1.heap[w.heap.size]? = some (.cells #[.int .i64 i, .int .i64 j] 124 (0, 0)) := by rw [hw1]; exact heap_alloc_new w _
  have HLK := Lib.hid (fun (Z : World) (h : Ext w1 Z) => ((hF.ext E1).ext h).look (i, j) hs)
  have HM := Lib.hid (cell_ext E1 hm); have HW := Lib.hid hw1; have HE := Lib.hid E1; have B1 := Lib.hid b1
  clear hw1 E1 b1 hm hF hs
  generalize inF F (i, j) = fl at *
  dsimp only
  go_enter Tryz.func93, Tryz.ntmps93
  go_wp2
  rw [← HW.out]
  refine wp_region_order (fun X : World => X.cell? ⟨bn, 4, none⟩ = some (.map (some mo)) ∧ X.heap[w.heap.size]? = some (.cells #[.int .i64 i, .int .i64 j] 124 (0, 0)) ∧ Hid (Ext w1 X)) [0, 1, 2, 3, 4, 5, 6] (by kernel_rfl) (by kernel_rfl) (by exact ⟨HM.out, B1.out, Lib.hid (Ext.refl _).drew⟩) (fun hHeld => ?_)
  simp only [opsIn, List.filterMap_cons, List.filterMap_nil, List.getElem?_toArray, List.getElem?_cons_succ, List.getElem?_cons_zero]
  refine' text_chunk 5 (by kernel_rfl) hHeld ?ck3 ?cr3
  case ck3 =>
    intro W hSw
    have hSW := hSw
    try dsimp only at hSW
    clear hSw
    obtain ⟨s1, s2, s3⟩ := hSW
    obtain ⟨d0, d1⟩ := cells2 s2
    simp only [List.take_succ_cons, List.take_zero, List.drop_succ_cons, List.drop_zero]
    repeat (go_big_quiet_step (fail))
    exact wpQuiet_nil rfl
  simp only [List.take_succ_cons, List.take_zero, List.drop_succ_cons, List.drop_zero]
  have hL : (Instr.lookup 113 (.map (some mo)) (.agg #[.int .i64 i, .int .i64 j]) false).run Tryz.prog w1.drew = .ok (.bool fl) w1.drew := HLK.out w1.drew hHeld.2.2.out
  refine text_call (by rfl) (by rfl) (fun K hK => ?_)
  go_simp
  all_goals (try (go_wp2_with fail))
  refine hK.out _ _ (by exact hHeld) (fun hHeld => ?_)
  clear hK K hL
  try simp only [Act.put, List.setIfInBounds_toArray, List.set_cons_zero, List.set_cons_succ]
  refine' text_chunk 1 (by kernel_rfl) hHeld ?ck4 ?cr4
  case ck4 =>
    intro W hSw
    have hSW := hSw
    try dsimp only at hSW
    clear hSw
    obtain ⟨s1, s2, s3⟩ := hSW
    obtain ⟨d0, d1⟩ := cells2 s2
    simp only [List.take_succ_cons, List.take_zero, List.drop_succ_cons, List.drop_zero]
    repeat (go_big_quiet_step (fail))
    exact wpQuiet_nil rfl
  simp only [List.take_succ_cons, List.take_zero, List.drop_succ_cons, List.drop_zero]
  refine text_done ?_
  clear hHeld
  go_wp2
  go_ret
  exact ⟨rfl, HE.out.trans (Ext.refl _).drew⟩
end Go.Proofs.YtppjnpempgpkaaaGreat
