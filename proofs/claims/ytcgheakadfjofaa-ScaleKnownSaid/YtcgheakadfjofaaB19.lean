/- isBest, by its contract. -/
import Derived.Test.YtcgheakadfjofaaB18
namespace Go.Proofs.Ytcgheakadfjofaa
open Go.RowKit Go.Shelf
set_option linter.unusedVariables false
set_option linter.unusedSimpArgs false
set_option maxRecDepth 100000 in
set_option maxHeartbeats 4000000 in
theorem best81 (b : Nat) (vt vb : Value) (th bd : List Int) (r : Rl) (ps : List Int) (i j : Nat) (x : Int) (w : World) (hy : YardAt w b vt vb th bd r ps) (hi : i < 61) (hj : j < 61) (hx : 0 ≤ x ∧ x ≤ 1099511627776) (hp : 0 ≤ ps.getD j 0 ∧ ps.getD j 0 ≤ 1099511627776) :
    Calls Try.prog 81 #[.pointer (some ⟨b, 0, none⟩), .agg #[.int .i64 (i : Int), .int .i64 (j : Int), .int .i64 x]] w fun e w' => e = .returned (.bool (decide (x + ps.getD j 0 = ps.getD i 0))) ∧ Ext w w' := by
  have h84 := fun (W : World) (h : Ext w W) => worth84 b _ _ th bd r ps i j x W (hy.ext h) hj hx hp
  have E0 := Lib.hid ((Ext.refl w).alloc (.cells #[.int .i64 (i : Int), .int .i64 (j : Int), .int .i64 x] 110))
  have ci := (hy.ext E0.out).price hi
  have d0 : (w.alloc (.cells #[.int .i64 (i : Int), .int .i64 (j : Int), .int .i64 x] 110)).cell? ⟨w.heap.size, 0, none⟩ = some (.int .i64 (i : Int)) := World.cell?_alloc_at _ _ _ _ rfl
  have d1 : (w.alloc (.cells #[.int .i64 (i : Int), .int .i64 (j : Int), .int .i64 x] 110)).cell? ⟨w.heap.size, 1, none⟩ = some (.int .i64 (j : Int)) := World.cell?_alloc_at _ _ _ _ rfl
  have d2 : (w.alloc (.cells #[.int .i64 (i : Int), .int .i64 (j : Int), .int .i64 x] 110)).cell? ⟨w.heap.size, 2, none⟩ = some (.int .i64 x) := World.cell?_alloc_at _ _ _ _ rfl
  generalize ps.getD i 0 = pi at *
  generalize ps.getD j 0 = pj at *
  have hia : (0 : Int) ≤ (i : Int) := by omega
  have hib : (i : Int) < 61 := by omega
  have H84 := Lib.hid h84
  have HKP := Lib.hid (show ∀ X X' : World, (fun X : World => X.cell? ⟨b, 9 + i, none⟩ = some (.int .i64 pi) ∧ X.cell? ⟨w.heap.size, 0, none⟩ = some (.int .i64 (i : Int)) ∧ X.cell? ⟨w.heap.size, 1, none⟩ = some (.int .i64 (j : Int)) ∧ X.cell? ⟨w.heap.size, 2, none⟩ = some (.int .i64 x) ∧ Hid (Ext w X)) X → Ext X X' → (fun X : World => X.cell? ⟨b, 9 + i, none⟩ = some (.int .i64 pi) ∧ X.cell? ⟨w.heap.size, 0, none⟩ = some (.int .i64 (i : Int)) ∧ X.cell? ⟨w.heap.size, 1, none⟩ = some (.int .i64 (j : Int)) ∧ X.cell? ⟨w.heap.size, 2, none⟩ = some (.int .i64 x) ∧ Hid (Ext w X)) X' from fun X X' h hb => ⟨cell_ext hb h.1, cell_ext hb h.2.1, cell_ext hb h.2.2.1, cell_ext hb h.2.2.2.1, Lib.hid (Ext.trans h.2.2.2.2.out hb)⟩)
  clear h84 hy
  go_enter Try.func81, Try.ntmps81
  go_wp2
  refine wp_region_order (fun X : World => X.cell? ⟨b, 9 + i, none⟩ = some (.int .i64 pi) ∧ X.cell? ⟨w.heap.size, 0, none⟩ = some (.int .i64 (i : Int)) ∧ X.cell? ⟨w.heap.size, 1, none⟩ = some (.int .i64 (j : Int)) ∧ X.cell? ⟨w.heap.size, 2, none⟩ = some (.int .i64 x) ∧ Hid (Ext w X)) [0, 1, 3, 4, 5, 6, 7, 8, 9, 10, 2, 11, 12] (by kernel_rfl) (by kernel_rfl) (by exact ⟨ci, d0, d1, d2, Lib.hid E0.out.drew⟩) (fun hHeld => ?_)
  simp only [opsIn, List.filterMap_cons, List.filterMap_nil, List.getElem?_toArray, List.getElem?_cons_succ, List.getElem?_cons_zero]
  refine' text_chunk 10 (by kernel_rfl) hHeld ?ck1 ?cr1
  case ck1 =>
    intro W hSw
    have hSW := hSw
    try dsimp only at hSW
    clear hSw
    simp only [List.take_succ_cons, List.take_zero, List.drop_succ_cons, List.drop_zero]
    repeat (go_big_quiet_step (fail))
    exact wpQuiet_nil rfl
  simp only [List.take_succ_cons, List.take_zero, List.drop_succ_cons, List.drop_zero]
  refine text_call (by rfl) (by rfl) (fun K hK => ?_)
  go_simp
  (go_at_call 84; refine (H84.out _ hHeld.2.2.2.2.out).mono ?_; rintro e w5 ⟨rfl, hb⟩)
  all_goals (try (go_wp2_with fail))
  refine hK.out _ _ (by exact HKP.out _ _ hHeld hb) (fun hHeld => ?_)
  clear hK K
  try simp only [Act.put, List.setIfInBounds_toArray, List.set_cons_zero, List.set_cons_succ]
  refine' text_chunk 2 (by kernel_rfl) hHeld ?ck2 ?cr2
  case ck2 =>
    intro W hSw
    have hSW := hSw
    try dsimp only at hSW
    clear hSw
    simp only [List.take_succ_cons, List.take_zero, List.drop_succ_cons, List.drop_zero]
    repeat (go_big_quiet_step (fail))
    exact wpQuiet_nil rfl
  simp only [List.take_succ_cons, List.take_zero, List.drop_succ_cons, List.drop_zero]
  refine text_done ?_
  have HL := hHeld.2.2.2.2
  clear hHeld
  go_wp2
  go_ret
  exact ⟨ret_bool (by rw [Bool.eq_iff_iff]; simp), HL.out⟩
theorem best_bool {th bd : List Int} {r : Rl} {n i j : Nat} {x : Int} (hn : th.length = n + 1) (hi : i < 61) (hj : j < 61) : decide (x + (bestP th bd r).getD j 0 = (bestP th bd r).getD i 0) = bestB (sF th bd r) n i (j, x) := by
  rw [bestP_get hi, bestP_get hj, hn]; rfl
end Go.Proofs.Ytcgheakadfjofaa
