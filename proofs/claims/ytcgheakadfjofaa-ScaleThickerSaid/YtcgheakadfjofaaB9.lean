/- lies, isAny, isWaste, worth, isBest, by their contracts. The iterator parts: what it yields, for every loop body that keeps what lay before but for its own variables. -/
import Derived.Test.YtcgheakadfjofaaB7
import Derived.RangeFuncNested
import Derived.RangeFuncBound
import Derived.RangeFuncCalls
import Derived.RangeFuncLeaves
import Derived.RangeFuncBox
import Derived.Shelf.Abstract
import Derived.Shelf.RegionOpen
import Derived.OwnWalkIn
import Derived.TacticsInMore
import Derived.LoopNIn
import Derived.LoopIn
import Derived.RegionIn
namespace Go.Proofs.Ytcgheakadfjofaa
open Go.RowKit
set_option linter.unusedVariables false
set_option linter.unusedSimpArgs false
/-- A log has two places. -/
def lieB (th : List Int) (i j : Int) : Bool := inn 0 ((th.length : Int) - 1) [i, j] && decide (i < j)
set_option maxRecDepth 100000 in
set_option maxHeartbeats 4000000 in
theorem lies51 (b : Nat) (vt vb : Value) (th bd : List Int) (r : Rl) (ps : List Int) (i j : Int) (w : World) (hy : YardAt w b vt vb th bd r ps) :
    Calls Try.prog 51 #[.pointer (some ⟨b, 0, none⟩), .agg #[.int .i64 i, .int .i64 j]] w fun e w' => e = .returned (.bool (lieB th i j)) ∧ Ext w w' := by
  obtain ⟨hl, a, cap, rfl⟩ := hy.th.shape
  have E0 := Lib.hid ((Ext.refl w).alloc (.cells #[.int .i64 i, .int .i64 j] 29))
  obtain ⟨c0, -⟩ := (hy.ext E0.out).cells
  have d0 : (w.alloc (.cells #[.int .i64 i, .int .i64 j] 29)).cell? ⟨w.heap.size, 0, none⟩ = some (.int .i64 i) := World.cell?_alloc_at _ _ _ _ rfl
  have d1 : (w.alloc (.cells #[.int .i64 i, .int .i64 j] 29)).cell? ⟨w.heap.size, 1, none⟩ = some (.int .i64 j) := World.cell?_alloc_at _ _ _ _ rfl
  unfold lieB
  obtain ⟨n, hn⟩ : ∃ n, n = th.length := ⟨_, rfl⟩
  rw [← hn] at c0 hl ⊢
  have h55 := fun (u : Value) (W : World) (h : Reads W u [i, j]) => within55 0 ((n : Int) - 1) u [i, j] W h
  have hw : IntKind.i64.wrap ((n : Int) - 1) = (n : Int) - 1 := wrapi64 _ (by omega) (by omega)
  clear hy hn
  generalize inn 0 ((n : Int) - 1) [i, j] = c at *
  have HKP := Lib.hid (show ∀ X X' : World, (fun X : World => X.cell? ⟨b, 0, none⟩ = some (.slice a n cap) ∧ X.cell? ⟨w.heap.size, 0, none⟩ = some (.int .i64 i) ∧ X.cell? ⟨w.heap.size, 1, none⟩ = some (.int .i64 j) ∧ Hid (Ext w X)) X → Ext X X' → (fun X : World => X.cell? ⟨b, 0, none⟩ = some (.slice a n cap) ∧ X.cell? ⟨w.heap.size, 0, none⟩ = some (.int .i64 i) ∧ X.cell? ⟨w.heap.size, 1, none⟩ = some (.int .i64 j) ∧ Hid (Ext w X)) X' from fun X X' h hb => ⟨cell_ext hb h.1, cell_ext hb h.2.1, cell_ext hb h.2.2.1, Lib.hid (Ext.trans h.2.2.2.out hb)⟩)
  have H55 := Lib.hid h55
  clear h55
  cases c
  · go_enter Try.func51, Try.ntmps51
    go_wp2
    refine wp_region_text (fun X : World => X.cell? ⟨b, 0, none⟩ = some (.slice a n cap) ∧ X.cell? ⟨w.heap.size, 0, none⟩ = some (.int .i64 i) ∧ X.cell? ⟨w.heap.size, 1, none⟩ = some (.int .i64 j) ∧ Hid (Ext w X)) (by kernel_rfl) (by kernel_rfl) (by exact ⟨c0, d0, d1, Lib.hid E0.out.drew⟩) (fun hHeld => ?_)
    simp only [List.toList_toArray]
    refine' text_chunk 5 (by kernel_rfl) hHeld ?ck1 ?cr1
    case ck1 =>
      intro W hSw
      have hSW := hSw
      try dsimp only at hSW
      clear hSw
      simp only [List.take_succ_cons, List.take_zero, List.drop_succ_cons, List.drop_zero]
      repeat (go_big_quiet_step (fail))
      exact wpQuiet_nil rfl
    simp only [List.take_succ_cons, List.take_zero, List.drop_succ_cons, List.drop_zero]
    refine' text_take (by rfl) (by rfl) ?ck2 ?cr2
    case ck2 => (intro W hSw; (try dsimp only at hSw); go_simp; all_goals with_reducible rfl)
    try simp only [Act.put, List.setIfInBounds_toArray, List.set_cons_zero, List.set_cons_succ]
    refine' text_chunk 5 (by kernel_rfl) hHeld ?ck3 ?cr3
    case ck3 =>
      intro W hSw
      have hSW := hSw
      try dsimp only at hSW
      clear hSw
      simp only [List.take_succ_cons, List.take_zero, List.drop_succ_cons, List.drop_zero]
      repeat (go_big_quiet_step (fail))
      exact wpQuiet_nil rfl
    simp only [List.take_succ_cons, List.take_zero, List.drop_succ_cons, List.drop_zero]
    refine text_call (by rfl) (by rfl) (fun K hK => ?_)
    go_simp
    all_goals (try (go_wp2_with fail))
    refine hK.out _ _ (by exact HKP.out _ _ hHeld (Ext.alloc (Ext.refl _) _)) (fun hHeld => ?_)
    clear hK K
    try simp only [Act.put, List.setIfInBounds_toArray, List.set_cons_zero, List.set_cons_succ]
    refine text_call (by rfl) (by rfl) (fun K hK => ?_)
    go_simp
    (go_at_call 55; refine (H55.out _ _ ?_).mono ?_; (exact Reads.new _ [i, j] _ _ (by simp) (by simp) _ rfl 2 2 rfl); rintro e w5 ⟨rfl, rfl⟩)
    all_goals (try (go_wp2_with fail))
    refine hK.out _ _ (by exact hHeld) (fun hHeld => ?_)
    clear hK K
    try simp only [Act.put, List.setIfInBounds_toArray, List.set_cons_zero, List.set_cons_succ]
    refine' text_chunk 8 (by kernel_rfl) hHeld ?ck4 ?cr4
    case ck4 =>
      intro W hSw
      have hSW := hSw
      try dsimp only at hSW
      clear hSw
      simp only [List.take_succ_cons, List.take_zero, List.drop_succ_cons, List.drop_zero]
      repeat (go_big_quiet_step (fail))
      exact wpQuiet_nil rfl
    simp only [List.take_succ_cons, List.take_zero, List.drop_succ_cons, List.drop_zero]
    refine text_done ?_
    have HL := hHeld.2.2.2
    clear hHeld
    go_wp2
    go_ret
    exact ⟨ret_bool (by simp), HL.out⟩
  · go_enter Try.func51, Try.ntmps51
    go_wp2
    refine wp_region_text (fun X : World => X.cell? ⟨b, 0, none⟩ = some (.slice a n cap) ∧ X.cell? ⟨w.heap.size, 0, none⟩ = some (.int .i64 i) ∧ X.cell? ⟨w.heap.size, 1, none⟩ = some (.int .i64 j) ∧ Hid (Ext w X)) (by kernel_rfl) (by kernel_rfl) (by exact ⟨c0, d0, d1, Lib.hid E0.out.drew⟩) (fun hHeld => ?_)
    simp only [List.toList_toArray]
    refine' text_chunk 5 (by kernel_rfl) hHeld ?ck5 ?cr5
    case ck5 =>
      intro W hSw
      have hSW := hSw
      try dsimp only at hSW
      clear hSw
      simp only [List.take_succ_cons, List.take_zero, List.drop_succ_cons, List.drop_zero]
      repeat (go_big_quiet_step (fail))
      exact wpQuiet_nil rfl
    simp only [List.take_succ_cons, List.take_zero, List.drop_succ_cons, List.drop_zero]
    refine' text_take (by rfl) (by rfl) ?ck6 ?cr6
    case ck6 => (intro W hSw; (try dsimp only at hSw); go_simp; all_goals with_reducible rfl)
    try simp only [Act.put, List.setIfInBounds_toArray, List.set_cons_zero, List.set_cons_succ]
    refine' text_chunk 5 (by kernel_rfl) hHeld ?ck7 ?cr7
    case ck7 =>
      intro W hSw
      have hSW := hSw
      try dsimp only at hSW
      clear hSw
      simp only [List.take_succ_cons, List.take_zero, List.drop_succ_cons, List.drop_zero]
      repeat (go_big_quiet_step (fail))
      exact wpQuiet_nil rfl
    simp only [List.take_succ_cons, List.take_zero, List.drop_succ_cons, List.drop_zero]
    refine text_call (by rfl) (by rfl) (fun K hK => ?_)
    go_simp
    all_goals (try (go_wp2_with fail))
    refine hK.out _ _ (by exact HKP.out _ _ hHeld (Ext.alloc (Ext.refl _) _)) (fun hHeld => ?_)
    clear hK K
    try simp only [Act.put, List.setIfInBounds_toArray, List.set_cons_zero, List.set_cons_succ]
    refine text_call (by rfl) (by rfl) (fun K hK => ?_)
    go_simp
    (go_at_call 55; refine (H55.out _ _ ?_).mono ?_; (exact Reads.new _ [i, j] _ _ (by simp) (by simp) _ rfl 2 2 rfl); rintro e w5 ⟨rfl, rfl⟩)
    all_goals (try (go_wp2_with fail))
    refine hK.out _ _ (by exact hHeld) (fun hHeld => ?_)
    clear hK K
    try simp only [Act.put, List.setIfInBounds_toArray, List.set_cons_zero, List.set_cons_succ]
    refine' text_chunk 8 (by kernel_rfl) hHeld ?ck8 ?cr8
    case ck8 =>
      intro W hSw
      have hSW := hSw
      try dsimp only at hSW
      clear hSw
      simp only [List.take_succ_cons, List.take_zero, List.drop_succ_cons, List.drop_zero]
      repeat (go_big_quiet_step (fail))
      exact wpQuiet_nil rfl
    simp only [List.take_succ_cons, List.take_zero, List.drop_succ_cons, List.drop_zero]
    refine text_done ?_
    have HL := hHeld.2.2.2
    clear hHeld
    go_wp2
    go_ret
    exact ⟨ret_bool (by simp), HL.out⟩
theorem any75 (i j : Nat) (x : Int) (w : World) : Calls Try.prog 75 #[.agg #[.int .i64 (i : Int), .int .i64 (j : Int), .int .i64 x]] w fun e w' => e = .returned (.bool true) ∧ Ext w w' := by
  go_enter Try.func75, Try.ntmps75
  go_wp2
  go_ret
  exact ⟨rfl, (Ext.refl w).alloc _⟩
theorem waste72 (i j : Nat) (x : Int) (w : World) : Calls Try.prog 72 #[.agg #[.int .i64 (i : Int), .int .i64 (j : Int), .int .i64 x]] w fun e w' => e = .returned (.bool (decide (x = 0))) ∧ Ext w w' := by
  go_enter Try.func72, Try.ntmps72
  go_wp2
  go_ret
  exact ⟨ret_bool (by rw [Bool.eq_iff_iff]; simp), (Ext.refl w).alloc _⟩
set_option maxRecDepth 100000 in
set_option maxHeartbeats 2000000 in
theorem worth84 (b : Nat) (vt vb : Value) (th bd : List Int) (r : Rl) (ps : List Int) (i j : Nat) (x : Int) (w : World) (hy : YardAt w b vt vb th bd r ps) (hj : j < 61) (hx : 0 ≤ x ∧ x ≤ 1099511627776) (hp : 0 ≤ ps.getD j 0 ∧ ps.getD j 0 ≤ 1099511627776) :
    Calls Try.prog 84 #[.pointer (some ⟨b, 0, none⟩), .agg #[.int .i64 (i : Int), .int .i64 (j : Int), .int .i64 x]] w fun e w' => e = .returned (.int .i64 (x + ps.getD j 0)) ∧ Ext w w' := by
  have E0 := Lib.hid ((Ext.refl w).alloc (.cells #[.int .i64 (i : Int), .int .i64 (j : Int), .int .i64 x] 110))
  have c := (hy.ext E0.out).price hj
  generalize ps.getD j 0 = p at *
  have hw : IntKind.i64.wrap (x + p) = x + p := wrapi64 _ (by omega) (by omega)
  have hja : (0 : Int) ≤ (j : Int) := by omega
  have hjb : (j : Int) < 61 := by omega
  clear hy
  go_enter Try.func84, Try.ntmps84
  go_wp2
  go_quiet (fail)
  go_wp2
  go_ret
  exact ⟨rfl, E0.out.drewN _⟩
end Go.Proofs.Ytcgheakadfjofaa
namespace Go.Proofs.Ytcgheakadfjofaa
open Go.RowKit Go.Shelf
set_option linter.unusedVariables false
set_option linter.unusedSimpArgs false
attribute [local go_sem] Oper.semAt_some
/-- All cells but those of some blocks lie as they lay. -/
structure KeepC (rs : List Nat) (A B : World) : Prop where
  os : B.os = A.os
  tape : B.tape = A.tape
  output : B.output = A.output
  size : A.heap.size ≤ B.heap.size
  block : ∀ k o, A.heap[k]? = some o → o.isCells = true → k ∉ rs → B.heap[k]? = some o
theorem KeepC.refl (rs : List Nat) (A : World) : KeepC rs A A := ⟨rfl, rfl, rfl, Nat.le_refl _, fun _ _ h _ _ => h⟩
theorem KeepC.trans {rs : List Nat} {A B C : World} (h : KeepC rs A B) (k : KeepC rs B C) : KeepC rs A C :=
  ⟨k.os.trans h.os, k.tape.trans h.tape, k.output.trans h.output, Nat.le_trans h.size k.size, fun i o h1 h2 h3 => k.block i o (h.block i o h1 h2 h3) h2 h3⟩
theorem KeepC.ext {rs : List Nat} {A B : World} (h : Ext A B) : KeepC rs A B := ⟨h.os, h.tape, h.output, h.size, fun k o h1 _ _ => block_ext h h1⟩
theorem KeepC.drewN {rs : List Nat} {A B : World} (h : KeepC rs A B) (n : Nat) : KeepC rs A (B.drewN n) := ⟨h.os, h.tape, h.output, h.size, h.block⟩
theorem KeepC.put {rs : List Nat} {W : World} {l : Nat} {o o' : Obj} (hl : W.heap[l]? = some o) (hc : o.isCells = false) : KeepC rs W (W.putObj l o') := by
  refine ⟨rfl, rfl, rfl, by simp [World.putObj], fun k o1 h1 h2 _ => ?_⟩
  simp only [World.putObj, Array.getElem?_setIfInBounds]
  split
  · rename_i h; subst h; rw [hl] at h1; cases h1; rw [hc] at h2; cases h2
  · exact h1
theorem KeepC.set {rs : List Nat} (A : World) {b o : Nat} (hb : b ∈ rs) (v : Value) : KeepC rs A (A.setCell ⟨b, o, none⟩ v) := by
  refine ⟨rfl, rfl, rfl, by simp [World.setCell], fun k o1 h1 h2 h3 => ?_⟩
  show (A.heap.modify b _)[k]? = _
  rw [Array.getElem?_modify]
  rw [if_neg (fun e : b = k => h3 (by rw [← e]; exact hb))]
  exact h1
theorem cell_cells {w : World} {b o : Nat} {v : Value} (h : w.cell? ⟨b, o, none⟩ = some v) : ∃ ob, w.heap[b]? = some ob ∧ ob.isCells = true := by
  unfold World.cell? at h
  cases hb : w.heap[b]? with
  | none => simp [hb] at h
  | some ob => cases ob <;> simp_all [Obj.isCells]
theorem KeepC.cell {rs : List Nat} {A B : World} (h : KeepC rs A B) {g o : Nat} {v : Value} (hg : g ∉ rs) (hc : A.cell? ⟨g, o, none⟩ = some v) : B.cell? ⟨g, o, none⟩ = some v := by
  obtain ⟨ob, h1, h2⟩ := cell_cells hc
  have h3 := h.block g ob h1 h2 hg
  rw [← hc]
  simp only [World.cell?, h1, h3]
theorem Reads.keep {rs : List Nat} {w₀ W X : World} {v : Value} {xs : List Int} (h : Reads w₀ v xs) (hE : Ext w₀ W) (hk : KeepC rs W X) (hrs : ∀ r ∈ rs, w₀.heap.size ≤ r) : Reads X v xs := by
  obtain ⟨hl, a, cap, rfl, h⟩ := h
  refine ⟨hl, a, cap, rfl, h.imp id ?_⟩
  rintro ⟨b, off, rfl, hc⟩
  refine ⟨b, off, rfl, fun i hi => ?_⟩
  have h1 := hc i hi
  exact hk.cell (fun hm => by have := hrs b hm; have := lt_of_cell h1; omega) (cell_ext hE h1)
theorem YardAt.keep {rs : List Nat} {w₀ W X : World} {b : Nat} {vt vb : Value} {th bd : List Int} {r : Rl} {ps : List Int} (h : YardAt w₀ b vt vb th bd r ps) (hE : Ext w₀ W) (hk : KeepC rs W X) (hrs : ∀ r ∈ rs, w₀.heap.size ≤ r) : YardAt X b vt vb th bd r ps :=
  ⟨hk.block b _ (block_ext hE h.blk) rfl (fun hm => by have := hrs b hm; have := lt_of_cell h.cells.1; omega), h.th.keep hE hk hrs, h.bd.keep hE hk hrs, h.len⟩
theorem grown_ext {w X : World} (h : Ext w X) (row : Option Nat) : w.grownBy X row := ⟨h.os, h.tape, h.output, h.size, fun i hi _ => h.block i hi⟩
theorem parts80 (b i : Nat) (w : World) : Calls Try.prog 80 #[.pointer (some ⟨b, 0, none⟩), .int .i64 (i : Int)] w fun e w' =>
    e = .returned (.func (.func 90) #[] #[.pointer (some ⟨w.heap.size + 1, 0, none⟩), .pointer (some ⟨w.heap.size, 0, none⟩)]) ∧ w' = (w.alloc (.cells #[.pointer (some ⟨b, 0, none⟩)] 75)).alloc (.cells #[.int .i64 (i : Int)] 3) := by
  go_enter Try.func80, Try.ntmps80
  go_wp2
  go_ret
  exact ⟨rfl, rfl⟩
/-- The parts that begin at a place and end before another one. -/
def partsTo (F : Nat → Nat → Int) (i k : Nat) : List (Nat × Int) := if k ≤ i + 1 then [] else (i + 1, 0) :: ((List.range' (i + 1) (k - (i + 1))).filter fun j => decide (0 < F i j)).map fun j => (j, F i j)
theorem partsTo_first (F : Nat → Nat → Int) (i : Nat) : partsTo F i (i + 1) = [] := by simp [partsTo]
theorem partsTo_succ (F : Nat → Nat → Int) (i k : Nat) (h : i + 1 ≤ k) : partsTo F i (k + 1) = (partsTo F i k ++ (if k = i + 1 then [(k, 0)] else [])) ++ (if 0 < F i k then [(k, F i k)] else []) := by
  unfold partsTo
  rw [if_neg (show ¬ k + 1 ≤ i + 1 by omega), show k + 1 - (i + 1) = (k - (i + 1)) + 1 from by omega, List.range'_concat, show i + 1 + 1 * (k - (i + 1)) = k from by omega, List.filter_append, List.map_append]
  by_cases h1 : k = i + 1
  · subst h1
    by_cases h2 : 0 < F i (i + 1) <;> simp [h2]
  · rw [if_neg (show ¬ k ≤ i + 1 by omega), if_neg h1]
    by_cases h2 : 0 < F i k <;> simp [h2]
theorem partsTo_all (F : Nat → Nat → Int) (n i : Nat) : partsTo F i (n + 1) = partsL F n i := by
  unfold partsTo partsL logsT
  by_cases h : i < n
  · rw [if_neg (by omega), if_pos h, show n + 1 - (i + 1) = n - i from by omega]
    simp [allB]
  · rw [if_pos (by omega), if_neg h]
theorem partsTo_len (F : Nat → Nat → Int) (i k : Nat) : (partsTo F i k).length ≤ k := by
  unfold partsTo
  split
  · simp
  · have := List.length_filter_le (fun j => decide (0 < F i j)) (List.range' (i + 1) (k - (i + 1)))
    simp at this ⊢; omega
theorem partsTo_pre (F : Nat → Nat → Int) (i : Nat) {j k : Nat} (h : j ≤ k) : partsTo F i j <+: partsTo F i k := by
  obtain ⟨d, rfl⟩ : ∃ d, k = j + d := ⟨k - j, by omega⟩
  clear h
  induction d with
  | zero => exact List.prefix_refl _
  | succ d ih =>
    refine ih.trans ?_
    by_cases hj : i + 1 ≤ j + d
    · rw [show j + (d + 1) = j + d + 1 from rfl, partsTo_succ F i (j + d) hj, List.append_assoc]; exact List.prefix_append _ _
    · have : partsTo F i (j + d) = [] := by unfold partsTo; rw [if_pos (by omega)]
      rw [this]; exact List.nil_prefix
/-- A part that begins at a place. -/
abbrev PartOf (F : Nat → Nat → Int) (n i : Nat) := { p : Nat × Int // p ∈ partsL F n i }
def encT (F : Nat → Nat → Int) (n i : Nat) (x : PartOf F n i) : Array Value := #[.agg #[.int .i64 (i : Int), .int .i64 (x.1.1 : Int), .int .i64 x.1.2]]
def pv (F : Nat → Nat → Int) (n i : Nat) (ys : List (PartOf F n i)) : List (Nat × Int) := ys.map Subtype.val
theorem pv_snoc (F : Nat → Nat → Int) (n i : Nat) (ys : List (PartOf F n i)) (x : PartOf F n i) : pv F n i (ys ++ [x]) = pv F n i ys ++ [x.1] := by simp [pv]
theorem pv_len (F : Nat → Nat → Int) (n i : Nat) (ys : List (PartOf F n i)) : (pv F n i ys).length = ys.length := by simp [pv]
end Go.Proofs.Ytcgheakadfjofaa
