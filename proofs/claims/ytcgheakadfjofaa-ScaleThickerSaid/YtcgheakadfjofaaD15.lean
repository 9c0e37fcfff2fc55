/- scales; the two worths of between. between. Between. -/
import Derived.Test.YtcgheakadfjofaaD3
import Derived.Test.YtcgheakadfjofaaC3
import Derived.Test.YtcgheakadfjofaaB19
import Derived.Test.YtcgheakadfjofaaD10
import Derived.Test.YtcgheakadfjofaaB14
namespace Go.Proofs.Ytcgheakadfjofaa
open Go.RowKit Go.Shelf
set_option linter.unusedVariables false
set_option linter.unusedSimpArgs false
attribute [local go_sem] Oper.semAt_some
set_option maxHeartbeats 2000000 in
theorem scales87 (b : Nat) (vt vb : Value) (th bd : List Int) (r : Rl) (ps : List Int) (i j : Nat) (x : Int) (w : World) (hy : YardAt w b vt vb th bd r ps) (hv : Vw th bd r) (hij : i < j) (hj : j < th.length) :
    Calls Try.prog 87 #[.pointer (some ⟨b, 0, none⟩), .agg #[.int .i64 (i : Int), .int .i64 (j : Int), .int .i64 x]] w fun e w' => e = .returned (.int .i64 (ggV (sF th bd r) i (j, x))) ∧ Ext w w' := by
  have E0 := Lib.hid (Ext.alloc (Ext.refl w) (.cells #[.int .i64 (i : Int), .int .i64 (j : Int), .int .i64 x] 110))
  have p0 : (w.alloc (.cells #[.int .i64 (i : Int), .int .i64 (j : Int), .int .i64 x] 110)).cell? ⟨w.heap.size, 0, none⟩ = some (.int .i64 (i : Int)) := World.cell?_alloc_at _ _ _ _ rfl
  have p1 : (w.alloc (.cells #[.int .i64 (i : Int), .int .i64 (j : Int), .int .i64 x] 110)).cell? ⟨w.heap.size, 1, none⟩ = some (.int .i64 (j : Int)) := World.cell?_alloc_at _ _ _ _ rfl
  have h52 := Lib.hid (fun W (h : Ext w W) => feet52 b vt vb th bd r ps i j W (hy.ext h) hv hij hj)
  obtain ⟨g, hg⟩ : ∃ g, g = ggV (sF th bd r) i (j, x) := ⟨_, rfl⟩
  rw [← hg]
  have HG := Lib.hid (show g = if x = 0 then 0 else sF th bd r i j from hg)
  clear hy hv hg
  have h72 := fun W => waste72 i j x W
  by_cases hx : x = 0
  · have hre := Lib.hid (show g = 0 from by rw [HG.out, if_pos hx])
    rw [decide_eq_true hx] at h72
    have H72 := Lib.hid h72
    clear hx h72 HG
    go_enter Try.func87, Try.ntmps87
    go_wp2_with fail
    refine (H72.out _).mono ?_
    rintro e w1 ⟨rfl, hb⟩
    have E1 := Lib.hid (E0.out.trans hb)
    clear hb p0 p1
    go_wp2
    go_ret
    exact ⟨by rw [hre.out]; rfl, E1.out⟩
  · have hre := Lib.hid (show g = sF th bd r i j from by rw [HG.out, if_neg hx])
    rw [decide_eq_false hx] at h72
    have H72 := Lib.hid h72
    generalize sF th bd r i j = f at *
    clear hx h72 HG
    go_enter Try.func87, Try.ntmps87
    go_wp2_with fail
    refine (H72.out _).mono ?_
    rintro e w1 ⟨rfl, hb⟩
    have E1 := Lib.hid (E0.out.trans hb)
    have q0 := cell_ext hb p0
    have q1 := cell_ext hb p1
    clear hb p0 p1
    go_wp2_with fail
    refine (h52.out _ E1.out).mono ?_
    rintro e w2 ⟨rfl, hb⟩
    have E2 := Lib.hid (E1.out.trans hb)
    clear hb q0 q1
    go_wp2
    go_ret
    exact ⟨by rw [hre.out]; rfl, E2.out⟩
set_option maxRecDepth 100000 in
set_option maxHeartbeats 2000000 in
theorem most86 (b Bo Bb : Nat) (vt vb : Value) (th bd : List Int) (r : Rl) (ps : List Int) (i j : Nat) (x y : Int) (w : World) (hy : YardAt w b vt vb th bd r ps) (hv : Vw th bd r) (hij : i < j) (hj : j < th.length)
    (h3 : w.cell? ⟨Bo, 0, none⟩ = some (.pointer (some ⟨b, 0, none⟩))) (h5 : w.cell? ⟨Bb, j * 2 + 1, none⟩ = some (.int .i64 y)) (hyb : 0 ≤ y ∧ y ≤ 1099511627776) :
    Calls Try.prog 86 #[.agg #[.int .i64 (i : Int), .int .i64 (j : Int), .int .i64 x], .pointer (some ⟨Bo, 0, none⟩), .pointer (some ⟨Bb, 0, none⟩)] w fun e w' => e = .returned (.int .i64 (ggV (sF th bd r) i (j, x) + y)) ∧ Ext w w' := by
  have hth := hv.most
  have E0 := Lib.hid (Ext.alloc (Ext.refl w) (.cells #[.int .i64 (i : Int), .int .i64 (j : Int), .int .i64 x] 110))
  have k3 := cell_ext E0.out h3
  have k5 := cell_ext E0.out h5
  have p0 : (w.alloc (.cells #[.int .i64 (i : Int), .int .i64 (j : Int), .int .i64 x] 110)).cell? ⟨w.heap.size, 0, none⟩ = some (.int .i64 (i : Int)) := World.cell?_alloc_at _ _ _ _ rfl
  have p1 : (w.alloc (.cells #[.int .i64 (i : Int), .int .i64 (j : Int), .int .i64 x] 110)).cell? ⟨w.heap.size, 1, none⟩ = some (.int .i64 (j : Int)) := World.cell?_alloc_at _ _ _ _ rfl
  have p2 : (w.alloc (.cells #[.int .i64 (i : Int), .int .i64 (j : Int), .int .i64 x] 110)).cell? ⟨w.heap.size, 2, none⟩ = some (.int .i64 x) := World.cell?_alloc_at _ _ _ _ rfl
  have h87 := Lib.hid (fun W (h : Ext (w.alloc (.cells #[.int .i64 (i : Int), .int .i64 (j : Int), .int .i64 x] 110)) W) => scales87 b vt vb th bd r ps i j x W (hy.ext (E0.out.trans h)) hv hij hj)
  have hgb : 0 ≤ ggV (sF th bd r) i (j, x) ∧ ggV (sF th bd r) i (j, x) ≤ 216000 := by
    unfold ggV; dsimp only; split
    · omega
    · exact ⟨scl_nn hv _ _, sF_le hv i j⟩
  obtain ⟨g, hg⟩ : ∃ g, g = ggV (sF th bd r) i (j, x) := ⟨_, rfl⟩
  rw [← hg] at h87 hgb ⊢
  have hj0 : (0 : Int) ≤ (j : Int) := by omega
  have hj1 : (j : Int) < 61 := by omega
  have hjt : (j : Int).toNat = j := by omega
  have hw1 : IntKind.i64.wrap (g + y) = g + y := wrapi64 _ (by omega) (by omega)
  clear hy hv h3 h5 hg hth
  go_enter Try.func86, Try.ntmps86
  have HKP := Lib.hid (show ∀ X X' : World, (fun X : World => X.cell? ⟨Bo, 0, none⟩ = some (.pointer (some ⟨b, 0, none⟩)) ∧ X.cell? ⟨w.heap.size, 0, none⟩ = some (.int .i64 (i : Int)) ∧ X.cell? ⟨w.heap.size, 1, none⟩ = some (.int .i64 (j : Int)) ∧ X.cell? ⟨w.heap.size, 2, none⟩ = some (.int .i64 x) ∧ X.cell? ⟨Bb, j * 2 + 1, none⟩ = some (.int .i64 y) ∧ Hid (Ext (w.alloc (.cells #[.int .i64 (i : Int), .int .i64 (j : Int), .int .i64 x] 110)) X)) X → Ext X X' → (fun X : World => X.cell? ⟨Bo, 0, none⟩ = some (.pointer (some ⟨b, 0, none⟩)) ∧ X.cell? ⟨w.heap.size, 0, none⟩ = some (.int .i64 (i : Int)) ∧ X.cell? ⟨w.heap.size, 1, none⟩ = some (.int .i64 (j : Int)) ∧ X.cell? ⟨w.heap.size, 2, none⟩ = some (.int .i64 x) ∧ X.cell? ⟨Bb, j * 2 + 1, none⟩ = some (.int .i64 y) ∧ Hid (Ext (w.alloc (.cells #[.int .i64 (i : Int), .int .i64 (j : Int), .int .i64 x] 110)) X)) X' from fun X X' h hb => ⟨cell_ext hb h.1, cell_ext hb h.2.1, cell_ext hb h.2.2.1, cell_ext hb h.2.2.2.1, cell_ext hb h.2.2.2.2.1, Lib.hid (Ext.trans h.2.2.2.2.2.out hb)⟩)
  go_wp2
  refine wp_region_order (fun X : World => X.cell? ⟨Bo, 0, none⟩ = some (.pointer (some ⟨b, 0, none⟩)) ∧ X.cell? ⟨w.heap.size, 0, none⟩ = some (.int .i64 (i : Int)) ∧ X.cell? ⟨w.heap.size, 1, none⟩ = some (.int .i64 (j : Int)) ∧ X.cell? ⟨w.heap.size, 2, none⟩ = some (.int .i64 x) ∧ X.cell? ⟨Bb, j * 2 + 1, none⟩ = some (.int .i64 y) ∧ Hid (Ext (w.alloc (.cells #[.int .i64 (i : Int), .int .i64 (j : Int), .int .i64 x] 110)) X)) [0, 1, 3, 4, 5, 6, 7, 8, 2, 9, 10] (by kernel_rfl) (by kernel_rfl) (by exact ⟨k3, p0, p1, p2, k5, Lib.hid (Ext.refl _).drew⟩) (fun hHeld => ?_)
  simp only [opsIn, List.filterMap_cons, List.filterMap_nil, List.getElem?_toArray, List.getElem?_cons_succ, List.getElem?_cons_zero]
  refine' text_chunk 8 (by kernel_rfl) hHeld ?ck1 ?cr1
  case ck1 =>
    intro W hSw
    have hSW := hSw
    try dsimp only at hSW
    clear hSw
    simp only [List.take_succ_cons, List.take_zero, List.drop_succ_cons, List.drop_zero]
    repeat (go_big_quiet_step (fail))
    exact wpQuiet_nil rfl
  simp only [List.take_succ_cons, List.take_zero, List.drop_succ_cons, List.drop_zero]
  refine text_call (by rfl) (by rfl) (fun K hK => ?_)
  go_simp
  (go_at_call 87; refine (h87.out _ hHeld.2.2.2.2.2.out).mono ?_; rintro e w5 ⟨rfl, hb⟩)
  all_goals (try (go_wp2_with fail))
  refine hK.out _ _ (by exact HKP.out _ _ hHeld hb) (fun hHeld => ?_)
  clear hK K
  try simp only [Act.put, List.setIfInBounds_toArray, List.set_cons_zero, List.set_cons_succ]
  refine' text_chunk 2 (by kernel_rfl) hHeld ?ck2 ?cr2
  case ck2 =>
    intro W hSw
    have hSW := hSw
    try dsimp only at hSW
    clear hSw
    simp only [List.take_succ_cons, List.take_zero, List.drop_succ_cons, List.drop_zero]
    repeat (go_big_quiet_step (fail))
    exact wpQuiet_nil rfl
  simp only [List.take_succ_cons, List.take_zero, List.drop_succ_cons, List.drop_zero]
  refine text_done ?_
  have HL := hHeld.2.2.2.2.2
  clear hHeld
  go_wp2
  go_ret
  exact ⟨rfl, E0.out.trans HL.out⟩
set_option maxRecDepth 100000 in
set_option maxHeartbeats 2000000 in
theorem least88 (b Bo Bb : Nat) (vt vb : Value) (th bd : List Int) (r : Rl) (ps : List Int) (i j : Nat) (x y : Int) (w : World) (hy : YardAt w b vt vb th bd r ps) (hv : Vw th bd r) (hij : i < j) (hj : j < th.length)
    (h3 : w.cell? ⟨Bo, 0, none⟩ = some (.pointer (some ⟨b, 0, none⟩))) (h5 : w.cell? ⟨Bb, j * 2, none⟩ = some (.int .i64 y)) (hyb : 0 ≤ y ∧ y ≤ 1099511627776) :
    Calls Try.prog 88 #[.agg #[.int .i64 (i : Int), .int .i64 (j : Int), .int .i64 x], .pointer (some ⟨Bo, 0, none⟩), .pointer (some ⟨Bb, 0, none⟩)] w fun e w' => e = .returned (.int .i64 (-ggV (sF th bd r) i (j, x) - y)) ∧ Ext w w' := by
  have hth := hv.most
  have E0 := Lib.hid (Ext.alloc (Ext.refl w) (.cells #[.int .i64 (i : Int), .int .i64 (j : Int), .int .i64 x] 110))
  have k3 := cell_ext E0.out h3
  have k5 := cell_ext E0.out h5
  have p0 : (w.alloc (.cells #[.int .i64 (i : Int), .int .i64 (j : Int), .int .i64 x] 110)).cell? ⟨w.heap.size, 0, none⟩ = some (.int .i64 (i : Int)) := World.cell?_alloc_at _ _ _ _ rfl
  have p1 : (w.alloc (.cells #[.int .i64 (i : Int), .int .i64 (j : Int), .int .i64 x] 110)).cell? ⟨w.heap.size, 1, none⟩ = some (.int .i64 (j : Int)) := World.cell?_alloc_at _ _ _ _ rfl
  have p2 : (w.alloc (.cells #[.int .i64 (i : Int), .int .i64 (j : Int), .int .i64 x] 110)).cell? ⟨w.heap.size, 2, none⟩ = some (.int .i64 x) := World.cell?_alloc_at _ _ _ _ rfl
  have h87 := Lib.hid (fun W (h : Ext (w.alloc (.cells #[.int .i64 (i : Int), .int .i64 (j : Int), .int .i64 x] 110)) W) => scales87 b vt vb th bd r ps i j x W (hy.ext (E0.out.trans h)) hv hij hj)
  have hgb : 0 ≤ ggV (sF th bd r) i (j, x) ∧ ggV (sF th bd r) i (j, x) ≤ 216000 := by
    unfold ggV; dsimp only; split
    · omega
    · exact ⟨scl_nn hv _ _, sF_le hv i j⟩
  obtain ⟨g, hg⟩ : ∃ g, g = ggV (sF th bd r) i (j, x) := ⟨_, rfl⟩
  rw [← hg] at h87 hgb ⊢
  have hj0 : (0 : Int) ≤ (j : Int) := by omega
  have hj1 : (j : Int) < 61 := by omega
  have hjt : (j : Int).toNat = j := by omega
  have hw1 : IntKind.i64.wrap (-g) = -g := wrapi64 _ (by omega) (by omega)
  have hw2 : IntKind.i64.wrap (-g - y) = -g - y := wrapi64 _ (by omega) (by omega)
  clear hy hv h3 h5 hg hth
  go_enter Try.func88, Try.ntmps88
  have HKP := Lib.hid (show ∀ X X' : World, (fun X : World => X.cell? ⟨Bo, 0, none⟩ = some (.pointer (some ⟨b, 0, none⟩)) ∧ X.cell? ⟨w.heap.size, 0, none⟩ = some (.int .i64 (i : Int)) ∧ X.cell? ⟨w.heap.size, 1, none⟩ = some (.int .i64 (j : Int)) ∧ X.cell? ⟨w.heap.size, 2, none⟩ = some (.int .i64 x) ∧ X.cell? ⟨Bb, j * 2, none⟩ = some (.int .i64 y) ∧ Hid (Ext (w.alloc (.cells #[.int .i64 (i : Int), .int .i64 (j : Int), .int .i64 x] 110)) X)) X → Ext X X' → (fun X : World => X.cell? ⟨Bo, 0, none⟩ = some (.pointer (some ⟨b, 0, none⟩)) ∧ X.cell? ⟨w.heap.size, 0, none⟩ = some (.int .i64 (i : Int)) ∧ X.cell? ⟨w.heap.size, 1, none⟩ = some (.int .i64 (j : Int)) ∧ X.cell? ⟨w.heap.size, 2, none⟩ = some (.int .i64 x) ∧ X.cell? ⟨Bb, j * 2, none⟩ = some (.int .i64 y) ∧ Hid (Ext (w.alloc (.cells #[.int .i64 (i : Int), .int .i64 (j : Int), .int .i64 x] 110)) X)) X' from fun X X' h hb => ⟨cell_ext hb h.1, cell_ext hb h.2.1, cell_ext hb h.2.2.1, cell_ext hb h.2.2.2.1, cell_ext hb h.2.2.2.2.1, Lib.hid (Ext.trans h.2.2.2.2.2.out hb)⟩)
  go_wp2
  refine wp_region_order (fun X : World => X.cell? ⟨Bo, 0, none⟩ = some (.pointer (some ⟨b, 0, none⟩)) ∧ X.cell? ⟨w.heap.size, 0, none⟩ = some (.int .i64 (i : Int)) ∧ X.cell? ⟨w.heap.size, 1, none⟩ = some (.int .i64 (j : Int)) ∧ X.cell? ⟨w.heap.size, 2, none⟩ = some (.int .i64 x) ∧ X.cell? ⟨Bb, j * 2, none⟩ = some (.int .i64 y) ∧ Hid (Ext (w.alloc (.cells #[.int .i64 (i : Int), .int .i64 (j : Int), .int .i64 x] 110)) X)) [0, 1, 4, 5, 6, 7, 8, 9, 2, 3, 10, 11] (by kernel_rfl) (by kernel_rfl) (by exact ⟨k3, p0, p1, p2, k5, Lib.hid (Ext.refl _).drew⟩) (fun hHeld => ?_)
  simp only [opsIn, List.filterMap_cons, List.filterMap_nil, List.getElem?_toArray, List.getElem?_cons_succ, List.getElem?_cons_zero]
  refine' text_chunk 8 (by kernel_rfl) hHeld ?ck3 ?cr3
  case ck3 =>
    intro W hSw
    have hSW := hSw
    try dsimp only at hSW
    clear hSw
    simp only [List.take_succ_cons, List.take_zero, List.drop_succ_cons, List.drop_zero]
    repeat (go_big_quiet_step (fail))
    exact wpQuiet_nil rfl
  simp only [List.take_succ_cons, List.take_zero, List.drop_succ_cons, List.drop_zero]
  refine text_call (by rfl) (by rfl) (fun K hK => ?_)
  go_simp
  (go_at_call 87; refine (h87.out _ hHeld.2.2.2.2.2.out).mono ?_; rintro e w5 ⟨rfl, hb⟩)
  all_goals (try (go_wp2_with fail))
  refine hK.out _ _ (by exact HKP.out _ _ hHeld hb) (fun hHeld => ?_)
  clear hK K
  try simp only [Act.put, List.setIfInBounds_toArray, List.set_cons_zero, List.set_cons_succ]
  refine' text_chunk 3 (by kernel_rfl) hHeld ?ck4 ?cr4
  case ck4 =>
    intro W hSw
    have hSW := hSw
    try dsimp only at hSW
    clear hSw
    simp only [List.take_succ_cons, List.take_zero, List.drop_succ_cons, List.drop_zero]
    repeat (go_big_quiet_step (fail))
    exact wpQuiet_nil rfl
  simp only [List.take_succ_cons, List.take_zero, List.drop_succ_cons, List.drop_zero]
  refine text_done ?_
  have HL := hHeld.2.2.2.2.2
  clear hHeld
  go_wp2
  go_ret
  exact ⟨rfl, E0.out.trans HL.out⟩
end Go.Proofs.Ytcgheakadfjofaa
namespace Go.Proofs.Ytcgheakadfjofaa
open Go.RowKit Go.Shelf
set_option linter.unusedVariables false
set_option linter.unusedSimpArgs false
attribute [local go_sem] Oper.semAt_some
/-- A table of ranges in a block that is new since a world. -/
structure RngOwn (w₀ W : World) (b : Nat) (xs : List Int) : Prop where
  blk : W.heap[b]? = some (.cells (xs.map (Value.int .i64)).toArray 123 (0, 0))
  new : w₀.heap.size ≤ b
  ext0 : Ext w₀ W
theorem RngOwn.ext {w₀ W W' : World} {b : Nat} {xs : List Int} (h : RngOwn w₀ W b xs) (hb : Ext W W') : RngOwn w₀ W' b xs := ⟨block_ext hb h.blk, h.new, h.ext0.trans hb⟩
theorem RngOwn.stored {w₀ W : World} {b : Nat} {xs : List Int} (h : RngOwn w₀ W b xs) (k : Nat) (x : Int) : RngOwn w₀ (W.setCell ⟨b, k, none⟩ (.int .i64 x)) b (xs.set k x) := by
  refine ⟨?_, h.new, grown_new h.ext0 (grown_set W b k (.int .i64 x)) h.new⟩
  rw [set_blk h.blk, List.map_set]
theorem RngOwn.cell {w₀ W : World} {b : Nat} {xs : List Int} (h : RngOwn w₀ W b xs) {k : Nat} (hk : k < xs.length) : W.cell? ⟨b, k, none⟩ = some (.int .i64 (xs.getD k 0)) :=
  cell_of_blk h.blk (by simp [List.getD, hk])
theorem RngOwn.free {w₀ W : World} {b : Nat} {xs : List Int} (h : RngOwn w₀ W b xs) (k : Nat) : W.frozen? ⟨b, k, none⟩ = false := frozen_of_blk h.blk k
def byK (h l : Nat → Int) (kh kl : Nat) : List Int := (List.range 122).map fun m => if m % 2 = 0 then (if kl ≤ m / 2 then l (m / 2) else 0) else (if kh ≤ m / 2 then h (m / 2) else 0)
theorem byK_len (h l : Nat → Int) (kh kl : Nat) : (byK h l kh kl).length = 122 := by simp [byK]
theorem byK_at (h l : Nat → Int) (kh kl : Nat) {i : Nat} (hi : i < (byK h l kh kl).length) : (byK h l kh kl)[i] = if i % 2 = 0 then (if kl ≤ i / 2 then l (i / 2) else 0) else (if kh ≤ i / 2 then h (i / 2) else 0) := by
  simp [byK]
theorem byK_zero (h l : Nat → Int) {k : Nat} (hh : ∀ j, k ≤ j → h j = 0) (hl : ∀ j, k ≤ j → l j = 0) : byK h l k k = List.replicate 122 0 := by
  apply List.ext_getElem (by rw [byK_len, List.length_replicate])
  intro i h1 h2
  rw [List.getElem_replicate, byK_at]
  split
  · split
    · exact hl _ (by assumption)
    · rfl
  · split
    · exact hh _ (by assumption)
    · rfl
theorem byK_hi (h l : Nat → Int) {kh kl j : Nat} (hj : kh ≤ j) (h61 : j < 61) : (byK h l kh kl).getD (j * 2 + 1) 0 = h j := by
  have e1 : (j * 2 + 1) / 2 = j := by omega
  have e2 : (j * 2 + 1) % 2 = 1 := by omega
  have hlt : j * 2 + 1 < 122 := by omega
  simp [byK, List.getD, hlt, e1, e2, hj]
theorem byK_lo (h l : Nat → Int) {kh kl j : Nat} (hj : kl ≤ j) (h61 : j < 61) : (byK h l kh kl).getD (j * 2) 0 = l j := by
  have e1 : (j * 2) / 2 = j := by omega
  have e2 : (j * 2) % 2 = 0 := by omega
  have hlt : j * 2 < 122 := by omega
  simp [byK, List.getD, hlt, e1, hj]
theorem byK_setH (h l : Nat → Int) {k kl : Nat} (hk : k < 61) : (byK h l (k + 1) kl).set (k * 2 + 1) (h k) = byK h l k kl := by
  apply List.ext_getElem
  · simp [byK]
  · intro i h1 h2
    rw [List.getElem_set, byK_at, byK_at]
    by_cases e : k * 2 + 1 = i
    · rw [if_pos e, if_neg (by omega), if_pos (by omega)]
      rw [show i / 2 = k from by omega]
    · rw [if_neg e]
      split
      · rfl
      · by_cases h3 : k + 1 ≤ i / 2
        · rw [if_pos h3, if_pos (by omega)]
        · rw [if_neg h3, if_neg (by omega)]
theorem byK_setL (h l : Nat → Int) {k kh : Nat} (hk : k < 61) : (byK h l kh (k + 1)).set (k * 2) (l k) = byK h l kh k := by
  apply List.ext_getElem
  · simp [byK]
  · intro i h1 h2
    rw [List.getElem_set, byK_at, byK_at]
    by_cases e : k * 2 = i
    · rw [if_pos e, if_pos (by omega), if_pos (by omega)]
      rw [show i / 2 = k from by omega]
    · rw [if_neg e]
      split
      · by_cases h3 : k + 1 ≤ i / 2
        · rw [if_pos h3, if_pos (by omega)]
        · rw [if_neg h3, if_neg (by omega)]
      · rfl
theorem sumF_nn {g : Nat → Nat → Int} (hg : ∀ i j, 0 ≤ g i j) : ∀ l : List (Nat × Nat), 0 ≤ sumF g l
  | [] => Int.le_refl _
  | p :: l => by
    have h1 := sumF_nn hg l
    have h2 := hg p.1 p.2
    simp only [sumF, List.map_cons, List.sum_cons] at h1 ⊢
    omega
theorem btw_bd {th bd : List Int} {r r2 : Rl} (hv2 : Vw th bd r2) {n : Nat} (hn : th.length = n + 1) (i : Nat) : (0 ≤ (btwV (sF th bd r) (sF th bd r2) n i).1 ∧ (btwV (sF th bd r) (sF th bd r2) n i).1 ≤ 13176000) ∧ 0 ≤ (btwV (sF th bd r) (sF th bd r2) n i).2 ∧ (btwV (sF th bd r) (sF th bd r2) n i).2 ≤ 13176000 := by
  by_cases hi : i ≤ n
  · have hg : ∀ i j, 0 ≤ sF th bd r2 i j := fun i j => scl_nn hv2 _ _
    obtain ⟨⟨l, h1, h2, h3⟩, ⟨m, h4, h5, h6⟩⟩ := btw_ends (f := sF th bd r) (g := sF th bd r2) i hi
    rw [← h3, ← h6]
    have hM := bst_M hv2 hn allB i
    have e1 := sumF_le_bst hg l i hi h1
    have e2 := sumF_le_bst hg m i hi h4
    exact ⟨⟨sumF_nn hg l, by omega⟩, sumF_nn hg m, by omega⟩
  · rw [btwV_past (by omega)]; simp
theorem filter_congr_mem {α : Type} {l : List α} {p q : α → Bool} (h : ∀ a ∈ l, p a = q a) : l.filter p = l.filter q := List.filter_congr h
set_option maxRecDepth 100000 in
set_option maxHeartbeats 8000000 in
theorem between76 (n b b2 : Nat) (vt vb vt2 vb2 : Value) (th bd : List Int) (r r2 : Rl) (ps2 : List Int) (hv : Vw th bd r) (hv2 : Vw th bd r2) (hn : th.length = n + 1) (w : World) (hy : YardAt w b vt vb th bd r (bestP th bd r)) (hy2 : YardAt w b2 vt2 vb2 th bd r2 ps2) :
    Calls Try.prog 76 #[.pointer (some ⟨b, 0, none⟩), .pointer (some ⟨b2, 0, none⟩)] w fun e w' => e = .returned (.agg #[.int .i64 (btwV (sF th bd r) (sF th bd r2) n 0).1, .int .i64 (btwV (sF th bd r) (sF th bd r2) n 0).2]) ∧ Ext w w' := by
  obtain ⟨hl, a, cap, rfl⟩ := hy.th.shape
  obtain ⟨c0, -⟩ := hy.cells
  have hn61 := hv.most
  rw [hn] at c0 hl hn61 hy
  have c0u := fun (o o' o'' : Obj) => cell_ext (Ext.alloc (Ext.alloc (Ext.alloc (Ext.refl w) o) o') o'') c0
  have hbd := fun i => btw_bd (r := r) hv2 hn i
  have hFb : ∀ i p, p ∈ partsL (sF th bd r) n i → p.1 < 61 ∧ 0 ≤ p.2 ∧ p.2 ≤ 1099511627776 := fun i p hp => part_bd hv hp hn
  have hpb : ∀ j, 0 ≤ (bestP th bd r).getD j 0 ∧ (bestP th bd r).getD j 0 ≤ 1099511627776 := fun j => by
    unfold bestP
    exact psK_bd _ 1099511627776 (by omega) (fun j => by have := bst_M hv (n := th.length - 1) (by omega) allB j; omega) 0 j
  have hst := fun i (h : i < n) => btwV_step (f := sF th bd r) (g := sF th bd r2) h
  have hgb : ∀ i p, 0 ≤ ggV (sF th bd r2) i p ∧ ggV (sF th bd r2) i p ≤ 216000 := fun i p => by
    unfold ggV; split
    · omega
    · exact ⟨scl_nn hv2 _ _, sF_le hv2 i _⟩
  obtain ⟨hi, hhi⟩ : ∃ hi : Nat → Int, hi = fun i => (btwV (sF th bd r) (sF th bd r2) n i).2 := ⟨_, rfl⟩
  obtain ⟨lo, hlo⟩ : ∃ lo : Nat → Int, lo = fun i => (btwV (sF th bd r) (sF th bd r2) n i).1 := ⟨_, rfl⟩
  have HHI := Lib.hid (show ∀ i, i < n → hi i = gr (((partsL (sF th bd r) n i).filter (bestB (sF th bd r) n i)).map fun p => ggV (sF th bd r2) i p + hi p.1) from fun i h => by rw [hhi]; dsimp only; rw [hst i h])
  have HLO := Lib.hid (show ∀ i, i < n → -lo i = gr (((partsL (sF th bd r) n i).filter (bestB (sF th bd r) n i)).map fun p => -ggV (sF th bd r2) i p - lo p.1) from fun i h => by rw [hlo]; dsimp only; rw [hst i h]; exact Int.neg_neg _)
  have HBH := Lib.hid (show ∀ i, 0 ≤ hi i ∧ hi i ≤ 13176000 from fun i => by rw [hhi]; exact (hbd i).2)
  have HBL := Lib.hid (show ∀ i, 0 ≤ lo i ∧ lo i ≤ 13176000 from fun i => by rw [hlo]; exact (hbd i).1)
  have hz := byK_zero hi lo (k := n) (fun j h => by rw [hhi]; dsimp only; rw [btwV_past h]) (fun j h => by rw [hlo]; dsimp only; rw [btwV_past h])
  rw [show (btwV (sF th bd r) (sF th bd r2) n 0).1 = lo 0 by rw [hlo], show (btwV (sF th bd r) (sF th bd r2) n 0).2 = hi 0 by rw [hhi]]
  have E0 := Lib.hid (show Ext w (((w.alloc (.cells #[.pointer (some ⟨b2, 0, none⟩)] 75)).alloc (.cells #[.int .i64 0, .int .i64 0] 53)).alloc (.cells Try.zeroCells123 123)) from Ext.alloc (Ext.alloc (Ext.alloc (Ext.refl w) _) _) _)
  have HR0 := RngOwn.mk (w₀ := (w.alloc (.cells #[.pointer (some ⟨b2, 0, none⟩)] 75)).alloc (.cells #[.int .i64 0, .int .i64 0] 53)) (W := (((w.alloc (.cells #[.pointer (some ⟨b2, 0, none⟩)] 75)).alloc (.cells #[.int .i64 0, .int .i64 0] 53)).alloc (.cells Try.zeroCells123 123))) (b := w.heap.size + 1 + 1) (xs := byK hi lo n n)
    (by rw [hz]; have := heap_alloc_new ((w.alloc (.cells #[.pointer (some ⟨b2, 0, none⟩)] 75)).alloc (.cells #[.int .i64 0, .int .i64 0] 53)) (.cells Try.zeroCells123 123)
        simp only [World.size_alloc] at this
        rw [this]
        exact congrArg (fun z => some (Obj.cells z 123 (0, 0))) (by kernel_rfl)) (by simp) (Ext.alloc (Ext.refl _) _)
  obtain ⟨W0, hW0⟩ : ∃ W0, W0 = (w.alloc (.cells #[.pointer (some ⟨b2, 0, none⟩)] 75)).alloc (.cells #[.int .i64 0, .int .i64 0] 53) := ⟨_, rfl⟩
  rw [← hW0] at HR0 E0
  have E1 := Lib.hid (show Ext w W0 from by rw [hW0]; exact Ext.alloc (Ext.alloc (Ext.refl w) _) _)
  have B3 := Lib.hid (show W0.cell? ⟨w.heap.size, 0, none⟩ = some (.pointer (some ⟨b2, 0, none⟩)) from by rw [hW0]; exact cell_ext (Ext.alloc (Ext.refl _) _) (World.cell?_alloc_at _ _ _ _ rfl))
  have B4 := Lib.hid (show W0.heap[w.heap.size + 1]? = some (.cells #[.int .i64 0, .int .i64 0] 53 (0, 0)) from by
    rw [hW0]; have := heap_alloc_new (w.alloc (.cells #[.pointer (some ⟨b2, 0, none⟩)] 75)) (.cells #[.int .i64 0, .int .i64 0] 53); simpa using this)
  have HR1 := Lib.hid HR0
  have HW0 := Lib.hid hW0
  have HFB := Lib.hid hFb; have HPB := Lib.hid hpb; have HGB := Lib.hid hgb; have HV := Lib.hid hv; have HV2 := Lib.hid hv2; have HN := Lib.hid hn; have HY := Lib.hid hy; have HY2 := Lib.hid hy2
  have HLEN := Lib.hid (byK_len hi lo)
  have hw1 : IntKind.i64.wrap ((n : Int) + 1 - 2) = (n : Int) - 1 := by rw [show (n : Int) + 1 - 2 = n - 1 from by omega]; exact wrapi64 _ (by omega) (by omega)
  clear hbd hFb hpb hst hgb hhi hlo hz HR0 hW0 hv hv2 hn hy hy2 c0
  go_enter Try.func76, Try.ntmps76
  go_wp2_with fail
  clear c0u
  go_loopw [8] (fun s wr => ∃ k : Nat, k ≤ n ∧ s = .int .i64 ((k : Int) - 1) ∧ Hid (RngOwn W0 wr (w.heap.size + 1 + 1) (byK hi lo k k))) (fun s wr => (intOf s + 1).toNat)
  case atStart => exact ⟨n, Nat.le_refl _, rfl, Lib.hid (by rw [← HW0.out]; exact HR1.out)⟩
  case round =>
    obtain ⟨k, hk, rfl, HYB⟩ := hrel
    by_cases hk0 : 1 ≤ k
    · obtain ⟨i, rfl⟩ : ∃ i, k = i + 1 := ⟨k - 1, by omega⟩
      rw [show (((i + 1 : Nat) : Int) - 1) = (i : Int) from by omega]
      have hi0 : (0 : Int) ≤ (i : Int) := by omega
      have hi61 : (i : Int) < 61 := by omega
      have hit : (i : Int).toNat = i := by omega
      have hiw : IntKind.i64.wrap ((i : Int) - 1) = (i : Int) - 1 := wrapi64 _ (by omega) (by omega)
      have hfl : (partsL (sF th bd r) n i).filter (bestB (sF th bd r) n i) = (partsL (sF th bd r) n i).filter fun p => decide (p.2 + (bestP th bd r).getD p.1 0 = (bestP th bd r).getD i 0) := List.filter_congr fun p hp => (best_bool HN.out (by omega) (HFB.out i p hp).1).symm
      have hhi := HHI.out i (by omega)
      have hlo := HLO.out i (by omega)
      rw [hfl] at hhi hlo
      have yw := HY.out.ext (E1.out.trans HYB.out.ext0)
      have h83 := fun (X : World) (hX : Ext wr X) (hc1 : X.cell? ⟨wr.heap.size + 1, 0, none⟩ = some (.int .i64 (i : Int))) (hc2 : X.cell? ⟨wr.heap.size, 0, none⟩ = some (.pointer (some ⟨b, 0, none⟩))) =>
        great_most (sF th bd r) n (wr.heap.size + 1) wr.heap.size b i w.heap.size (w.heap.size + 1 + 1) _ vb th bd r _ (fun p => decide (p.2 + (bestP th bd r).getD p.1 0 = (bestP th bd r).getD i 0)) (fun p => ggV (sF th bd r2) i p + hi p.1) HV.out rfl HN.out wr yw X hX (by omega) hc1 hc2
          (fun p hp Y hE => best81 b _ vb th bd r _ i p.1 p.2 Y ((yw.ext hX).ext hE) (by omega) (HFB.out i p hp).1 (HFB.out i p hp).2 (HPB.out _))
          (fun p hp _ Y hE => by
            have hg := mem_parts_gt hp
            have hc : Y.cell? ⟨w.heap.size + 1 + 1, p.1 * 2 + 1, none⟩ = some (.int .i64 (hi p.1)) := by
              have := (HYB.out.ext (hX.trans hE)).cell (k := p.1 * 2 + 1) (by rw [HLEN.out]; omega)
              rwa [byK_hi hi lo (by omega) (by omega)] at this
            exact most86 b2 w.heap.size (w.heap.size + 1 + 1) _ _ th bd r2 _ i p.1 p.2 (hi p.1) Y (HY2.out.ext (E1.out.trans (HYB.out.ext0.trans (hX.trans hE)))) HV2.out hg.1 (by rw [HN.out]; omega) (cell_ext (HYB.out.ext0.trans (hX.trans hE)) B3.out) hc (by have := HBH.out p.1; omega))
      rw [← hhi] at h83
      have H83 := Lib.hid h83
      have hbh := HBH.out i
      have hbl := HBL.out i
      obtain ⟨hv, hhv⟩ : ∃ hv, hv = hi i := ⟨_, rfl⟩
      obtain ⟨lv, hlv⟩ : ∃ lv, lv = lo i := ⟨_, rfl⟩
      rw [← hhv] at H83 hbh
      rw [← hlv] at hbl hlo
      have HHV := Lib.hid hhv; have HLV := Lib.hid hlv; have HLOI := Lib.hid hlo
      have hnw : IntKind.i64.wrap (- -lv) = lv := by rw [Int.neg_neg]; exact wrapi64 _ (by omega) (by omega)
      clear h83 hhi hlo hfl yw hhv hlv
      go_wp2_with fail
      refine (parts80 b i _).mono ?_
      rintro e w8 ⟨rfl, rfl⟩
      go_wp2_with fail
      refine (H83.out _ ?_ ?_ ?_).mono ?_
      · exact Ext.alloc (Ext.alloc (Ext.refl _) _) _
      · exact World.cell?_alloc_at _ _ _ _ (by simp)
      · exact cell_ext (Ext.alloc (Ext.refl _) _) (World.cell?_alloc_at _ _ _ _ (by simp))
      rintro e w9 ⟨rfl, hb9⟩
      have hE9 := Ext.trans (Ext.alloc (Ext.alloc (Ext.refl wr) (.cells #[.pointer (some ⟨b, 0, none⟩)] 75)) (.cells #[.int .i64 (i : Int)] 3)) hb9
      have hy9 := HYB.out.ext hE9
      have k9 := hy9.cell (k := i * 2 + 1) (by rw [HLEN.out]; omega)
      have f9 := hy9.free (i * 2 + 1)
      have hs9 := hy9.stored (i * 2 + 1) (hi i)
      rw [byK_setH hi lo (by omega), ← HHV.out] at hs9
      have HS9 := Lib.hid hs9
      clear hE9 hb9 hy9 hs9 H83 HYB
      go_wp2_with fail
      clear k9 f9
      generalize (w9.setCell ⟨w.heap.size + 1 + 1, i * 2 + 1, none⟩ (.int .i64 hv)) = W10 at *
      have yw2 := HY.out.ext (E1.out.trans HS9.out.ext0)
      have h83 := fun (X : World) (hX : Ext W10 X) (hc1 : X.cell? ⟨W10.heap.size + 1, 0, none⟩ = some (.int .i64 (i : Int))) (hc2 : X.cell? ⟨W10.heap.size, 0, none⟩ = some (.pointer (some ⟨b, 0, none⟩))) =>
        great_least (sF th bd r) n (W10.heap.size + 1) W10.heap.size b i w.heap.size (w.heap.size + 1 + 1) _ vb th bd r _ (fun p => decide (p.2 + (bestP th bd r).getD p.1 0 = (bestP th bd r).getD i 0)) (fun p => -ggV (sF th bd r2) i p - lo p.1) HV.out rfl HN.out W10 yw2 X hX (by omega) hc1 hc2
          (fun p hp Y hE => best81 b _ vb th bd r _ i p.1 p.2 Y ((yw2.ext hX).ext hE) (by omega) (HFB.out i p hp).1 (HFB.out i p hp).2 (HPB.out _))
          (fun p hp _ Y hE => by
            have hg := mem_parts_gt hp
            have hc : Y.cell? ⟨w.heap.size + 1 + 1, p.1 * 2, none⟩ = some (.int .i64 (lo p.1)) := by
              have := (HS9.out.ext (hX.trans hE)).cell (k := p.1 * 2) (by rw [HLEN.out]; omega)
              rwa [byK_lo hi lo (by omega) (by omega)] at this
            exact least88 b2 w.heap.size (w.heap.size + 1 + 1) _ _ th bd r2 _ i p.1 p.2 (lo p.1) Y (HY2.out.ext (E1.out.trans (HS9.out.ext0.trans (hX.trans hE)))) HV2.out hg.1 (by rw [HN.out]; omega) (cell_ext (HS9.out.ext0.trans (hX.trans hE)) B3.out) hc (by have := HBL.out p.1; omega))
      rw [← HLOI.out] at h83
      have H83 := Lib.hid h83
      have hnw2 : IntKind.i64.wrap lv = lv := wrapi64 _ (by omega) (by omega)
      clear h83 yw2
      refine (parts80 b i _).mono ?_
      rintro e w8 ⟨rfl, rfl⟩
      go_wp2_with fail
      refine (H83.out _ ?_ ?_ ?_).mono ?_
      · exact Ext.alloc (Ext.alloc (Ext.refl _) _) _
      · exact World.cell?_alloc_at _ _ _ _ (by simp)
      · exact cell_ext (Ext.alloc (Ext.refl _) _) (World.cell?_alloc_at _ _ _ _ (by simp))
      rintro e w11 ⟨rfl, hb9⟩
      have hE9 := Ext.trans (Ext.alloc (Ext.alloc (Ext.refl W10) (.cells #[.pointer (some ⟨b, 0, none⟩)] 75)) (.cells #[.int .i64 (i : Int)] 3)) hb9
      have hy9 := HS9.out.ext hE9
      have k9 := hy9.cell (k := i * 2) (by rw [HLEN.out]; omega)
      have f9 := hy9.free (i * 2)
      have hs9 := hy9.stored (i * 2) (lo i)
      rw [byK_setL hi lo (by omega), ← HLV.out] at hs9
      have HS := Lib.hid hs9
      clear hE9 hb9 hy9 hs9 H83 HS9
      go_wp2
      go_roundw
      case rel => exact ⟨i, by omega, by go_num, HS⟩
      case measure => simp [intOf]
    · obtain rfl : k = 0 := by omega
      have k0 := HYB.out.cell (k := 0) (by rw [HLEN.out]; omega)
      have k1 := HYB.out.cell (k := 1) (by rw [HLEN.out]; omega)
      have e0 := byK_lo hi lo (kh := 0) (kl := 0) (j := 0) (Nat.le_refl _) (by omega)
      have e1 := byK_hi hi lo (kh := 0) (kl := 0) (j := 0) (Nat.le_refl _) (by omega)
      rw [show 0 * 2 = 0 from rfl] at e0
      rw [show 0 * 2 + 1 = 1 from rfl] at e1
      rw [e0] at k0
      rw [e1] at k1
      have b4 := block_ext HYB.out.ext0 B4.out
      have q0 : wr.cell? ⟨w.heap.size + 1, 0, none⟩ = some (.int .i64 0) := cell_of_blk b4 rfl
      have q1 : wr.cell? ⟨w.heap.size + 1, 1, none⟩ = some (.int .i64 0) := cell_of_blk b4 rfl
      have f0 : wr.frozen? ⟨w.heap.size + 1, 0, none⟩ = false := frozen_of_blk b4 0
      have f1 : wr.frozen? ⟨w.heap.size + 1, 1, none⟩ = false := frozen_of_blk b4 1
      have HE := Lib.hid (E1.out.trans HYB.out.ext0)
      have B5 := Lib.hid b4
      obtain ⟨hv, hhv⟩ : ∃ hv, hv = hi 0 := ⟨_, rfl⟩
      obtain ⟨lv, hlv⟩ : ∃ lv, lv = lo 0 := ⟨_, rfl⟩
      rw [← hhv] at k1
      rw [← hlv] at k0
      have HHV := Lib.hid hhv; have HLV := Lib.hid hlv
      clear e0 e1 b4 HYB hhv hlv
      go_wp2
      have z0 : ((wr.setCell ⟨w.heap.size + 1, 0, none⟩ (.int .i64 lv)).setCell ⟨w.heap.size + 1, 1, none⟩ (.int .i64 hv)).heap[w.heap.size + 1]? = some (.cells #[.int .i64 lv, .int .i64 hv] 53 (0, 0)) := by
        have h1 := set_blk (cs := [.int .i64 0, .int .i64 0]) B5.out (o := 0) (.int .i64 lv)
        have h2 := set_blk h1 (o := 1) (.int .i64 hv)
        exact h2
      have y0 : ((wr.setCell ⟨w.heap.size + 1, 0, none⟩ (.int .i64 lv)).setCell ⟨w.heap.size + 1, 1, none⟩ (.int .i64 hv)).cell? ⟨w.heap.size + 1, 0, none⟩ = some (.int .i64 lv) := cell_of_blk z0 rfl
      have y1 : ((wr.setCell ⟨w.heap.size + 1, 0, none⟩ (.int .i64 lv)).setCell ⟨w.heap.size + 1, 1, none⟩ (.int .i64 hv)).cell? ⟨w.heap.size + 1, 1, none⟩ = some (.int .i64 hv) := cell_of_blk z0 rfl
      exact bodyPost_ret (v := .agg #[.int .i64 lv, .int .i64 hv]) (by simp [results, Try.results76, go_sem, y0, y1]) rfl ⟨by rw [HHV.out, HLV.out], (HE.out.setCell (p := ⟨w.heap.size + 1, 0, none⟩) (by simp) _).setCell (p := ⟨w.heap.size + 1, 1, none⟩) (by simp) _⟩
end Go.Proofs.Ytcgheakadfjofaa
namespace Go.Proofs.Ytcgheakadfjofaa
open Go.RowKit Go.Shelf
set_option linter.unusedVariables false
set_option linter.unusedSimpArgs false
attribute [local go_sem] Oper.semAt_some
/-- What Between gives. -/
def betweenE (th bd : List Int) (r r2 : Rl) : (Int × Int) × Int :=
  if bothE th bd r ≠ 0 then ((0, 0), bothE th bd r) else if ruleE r2 ≠ 0 then ((0, 0), ruleE r2) else (btwV (sF th bd r) (sF th bd r2) (th.length - 1) 0, 0)
theorem both_rule {th bd : List Int} {r : Rl} (r2 : Rl) (h : bothE th bd r = 0) : bothE th bd r2 = ruleE r2 := by
  have := (bothE_ok.1 h).1
  unfold bothE; rw [if_pos (stemE_ok.2 this)]
set_option maxRecDepth 100000 in
set_option maxHeartbeats 4000000 in
theorem between38 (vt vb : Value) (th bd : List Int) (r r2 : Rl) (w : World) (ht : Reads w vt th) (hd : Reads w vb bd) :
    Calls Try.prog 38 #[.agg #[vt, vb], r.val, r2.val] w fun e w' => e = .returned (.tuple #[.agg #[.int .i64 (betweenE th bd r r2).1.1, .int .i64 (betweenE th bd r r2).1.2], .int .i64 (betweenE th bd r r2).2]) ∧ Ext w w' := by
  obtain ⟨hl, a, cap, rfl⟩ := ht.shape
  obtain ⟨n1, hn⟩ : ∃ n1, n1 = th.length := ⟨_, rfl⟩
  rw [← hn] at ht hl ⊢
  have E0 := Lib.hid (Ext.alloc (Ext.alloc (Ext.alloc (Ext.alloc (Ext.refl w) (.cells #[.slice a n1 cap, vb] 25)) (.cells #[.int .i64 r.lo, .int .i64 r.hi, .int .i64 r.st, .int .i64 r.tr, .int .i64 r.off, .int .i64 r.dv, .int .i64 r.tn] 27)) (.cells #[.int .i64 r2.lo, .int .i64 r2.hi, .int .i64 r2.st, .int .i64 r2.tr, .int .i64 r2.off, .int .i64 r2.dv, .int .i64 r2.tn] 27)) (.cells #[.int .i64 0, .int .i64 0] 53))
  have P0 := Lib.hid ((StemAt.new w (.slice a n1 cap) vb 25).ext (Ext.alloc (Ext.alloc (Ext.alloc (Ext.refl _) (.cells #[.int .i64 r.lo, .int .i64 r.hi, .int .i64 r.st, .int .i64 r.tr, .int .i64 r.off, .int .i64 r.dv, .int .i64 r.tn] 27)) (.cells #[.int .i64 r2.lo, .int .i64 r2.hi, .int .i64 r2.st, .int .i64 r2.tr, .int .i64 r2.off, .int .i64 r2.dv, .int .i64 r2.tn] 27)) (.cells #[.int .i64 0, .int .i64 0] 53)))
  have R0 := (RuleAt.new (w.alloc (.cells #[.slice a n1 cap, vb] 25)) r 27).ext (Ext.alloc (Ext.alloc (Ext.refl _) (.cells #[.int .i64 r2.lo, .int .i64 r2.hi, .int .i64 r2.st, .int .i64 r2.tr, .int .i64 r2.off, .int .i64 r2.dv, .int .i64 r2.tn] 27)) (.cells #[.int .i64 0, .int .i64 0] 53))
  have S0 := (RuleAt.new ((w.alloc (.cells #[.slice a n1 cap, vb] 25)).alloc (.cells #[.int .i64 r.lo, .int .i64 r.hi, .int .i64 r.st, .int .i64 r.tr, .int .i64 r.off, .int .i64 r.dv, .int .i64 r.tn] 27)) r2 27).ext (Ext.alloc (Ext.refl _) (.cells #[.int .i64 0, .int .i64 0] 53))
  have B0 := heap_alloc_new (((w.alloc (.cells #[.slice a n1 cap, vb] 25)).alloc (.cells #[.int .i64 r.lo, .int .i64 r.hi, .int .i64 r.st, .int .i64 r.tr, .int .i64 r.off, .int .i64 r.dv, .int .i64 r.tn] 27)).alloc (.cells #[.int .i64 r2.lo, .int .i64 r2.hi, .int .i64 r2.st, .int .i64 r2.tr, .int .i64 r2.off, .int .i64 r2.dv, .int .i64 r2.tn] 27)) (.cells #[.int .i64 0, .int .i64 0] 53)
  simp only [World.size_alloc] at R0 S0 B0
  have R0 := Lib.hid R0; have S0 := Lib.hid S0; have HB0 := Lib.hid B0
  have h62 := fun (W : World) (h : Ext w W) => openP62 _ _ _ th bd [] r W (ht.ext h) (hd.ext h) (Reads.nil W)
  rw [placedE_nil] at h62
  have h50 := fun (W : World) (h : Ext w W) => open50 _ _ th bd r2 W (ht.ext h) (hd.ext h)
  have hbr := fun h => both_rule (th := th) (bd := bd) (r := r) r2 h
  have hvr : bothE th bd r = 0 → Vw th bd r ∧ 2 ≤ th.length := fun h => by
    obtain ⟨h1, h2⟩ := bothE_ok.1 h
    exact ⟨h1.weak h2, h1.two⟩
  have hvr2 : bothE th bd r2 = 0 → Vw th bd r2 := fun h => by
    obtain ⟨h1, h2⟩ := bothE_ok.1 h
    exact h1.weak h2
  have hE := show betweenE th bd r r2 = if bothE th bd r ≠ 0 then ((0, 0), bothE th bd r) else if ruleE r2 ≠ 0 then ((0, 0), ruleE r2) else (btwV (sF th bd r) (sF th bd r2) (th.length - 1) 0, 0) from rfl
  generalize betweenE th bd r r2 = fe at *
  generalize bothE th bd r = BE at *
  generalize bothE th bd r2 = BE2 at *
  generalize ruleE r2 = RE at *
  rw [← hn] at hE hvr
  have HE := Lib.hid hE; have H62 := Lib.hid h62; have H50 := Lib.hid h50; have HBR := Lib.hid hbr; have HVR := Lib.hid hvr; have HVR2 := Lib.hid hvr2; have HN := Lib.hid hn
  clear hE h62 h50 hbr hvr hvr2 ht hd hn
  have ⟨g1, g2⟩ := P0.out.ext (Ext.refl _)
  have ⟨r0, r1, r2', r3, r4, r5, r6⟩ := R0.out.ext (Ext.refl _)
  have ⟨u0, u1, u2, u3, u4, u5, u6⟩ := S0.out.ext (Ext.refl _)
  go_enter Try.func38, Try.ntmps38
  go_wp2_with fail
  refine (H62.out _ E0.out).mono ?_
  rintro e w1 ⟨⟨hbe, rfl⟩ | ⟨rfl, b, rfl, hyo⟩, hb⟩
  · have hbn : (BE != 0) = true := by simpa using hbe
    have E1 := Lib.hid (E0.out.trans hb)
    have HB := Lib.hid (block_ext hb HB0.out)
    have hre := Lib.hid (show fe = ((0, 0), BE) from by rw [HE.out, if_pos hbe])
    have q0 : w1.cell? ⟨(w.heap.size + 1 + 1 + 1), 0, none⟩ = some (.int .i64 0) := cell_of_blk HB.out rfl
    have q1 : w1.cell? ⟨(w.heap.size + 1 + 1 + 1), 1, none⟩ = some (.int .i64 0) := cell_of_blk HB.out rfl
    have f0 : w1.frozen? ⟨(w.heap.size + 1 + 1 + 1), 0, none⟩ = false := frozen_of_blk HB.out 0
    have f1 : w1.frozen? ⟨(w.heap.size + 1 + 1 + 1), 1, none⟩ = false := frozen_of_blk HB.out 1
    clear g1 g2 r0 r1 r2' r3 r4 r5 r6 u0 u1 u2 u3 u4 u5 u6
    clear hb hbe HE
    go_wp2
    have z0 : ((w1.setCell ⟨(w.heap.size + 1 + 1 + 1), 0, none⟩ (.int .i64 0)).setCell ⟨(w.heap.size + 1 + 1 + 1), 1, none⟩ (.int .i64 0)).heap[(w.heap.size + 1 + 1 + 1)]? = some (.cells #[.int .i64 0, .int .i64 0] 53 (0, 0)) := by
      have h1 := set_blk (cs := [.int .i64 0, .int .i64 0]) HB.out (o := 0) (.int .i64 0)
      exact set_blk h1 (o := 1) (.int .i64 0)
    have y0 : ((w1.setCell ⟨(w.heap.size + 1 + 1 + 1), 0, none⟩ (.int .i64 0)).setCell ⟨(w.heap.size + 1 + 1 + 1), 1, none⟩ (.int .i64 0)).cell? ⟨(w.heap.size + 1 + 1 + 1), 0, none⟩ = some (.int .i64 0) := cell_of_blk z0 rfl
    have y1 : ((w1.setCell ⟨(w.heap.size + 1 + 1 + 1), 0, none⟩ (.int .i64 0)).setCell ⟨(w.heap.size + 1 + 1 + 1), 1, none⟩ (.int .i64 0)).cell? ⟨(w.heap.size + 1 + 1 + 1), 1, none⟩ = some (.int .i64 0) := cell_of_blk z0 rfl
    exact bodyPost_ret (v := .tuple #[.agg #[.int .i64 0, .int .i64 0], .int .i64 BE]) (by simp [results, Try.results38, go_sem, y0, y1]) rfl ⟨by rw [hre.out], (E1.out.setCell (p := ⟨(w.heap.size + 1 + 1 + 1), 0, none⟩) (by show w.heap.size ≤ (w.heap.size + 1 + 1 + 1); omega) _).setCell (p := ⟨(w.heap.size + 1 + 1 + 1), 1, none⟩) (by show w.heap.size ≤ (w.heap.size + 1 + 1 + 1); omega) _⟩
  · have E1 := Lib.hid (E0.out.trans hb)
    have HBX := Lib.hid hb
    have HYO := Lib.hid hyo
    obtain ⟨hv, h2n⟩ := HVR.out rfl
    have hv := Lib.hid hv
    have hbr := HBR.out rfl
    subst hbr
    clear g1 g2 r0 r1 r2' r3 r4 r5 r6 u0 u1 u2 u3 u4 u5 u6
    clear hb hyo HVR HBR H62
    have ⟨g1, g2⟩ := P0.out.ext (HBX.out)
    have ⟨r0, r1, r2', r3, r4, r5, r6⟩ := R0.out.ext (HBX.out)
    have ⟨u0, u1, u2, u3, u4, u5, u6⟩ := S0.out.ext (HBX.out)
    go_wp2_with fail
    refine (H50.out _ E1.out).mono ?_
    rintro e w2 ⟨⟨hbe, rfl⟩ | ⟨rfl, b2, rfl, hb2, hyo2⟩, hb⟩
    · have hbn : (BE2 != 0) = true := by simpa using hbe
      have E2 := Lib.hid (E1.out.trans hb)
      have HB := Lib.hid (block_ext hb (block_ext HBX.out HB0.out))
      have hre := Lib.hid (show fe = ((0, 0), BE2) from by rw [HE.out, if_neg (by simp), if_pos hbe])
      have q0 : w2.cell? ⟨(w.heap.size + 1 + 1 + 1), 0, none⟩ = some (.int .i64 0) := cell_of_blk HB.out rfl
      have q1 : w2.cell? ⟨(w.heap.size + 1 + 1 + 1), 1, none⟩ = some (.int .i64 0) := cell_of_blk HB.out rfl
      have f0 : w2.frozen? ⟨(w.heap.size + 1 + 1 + 1), 0, none⟩ = false := frozen_of_blk HB.out 0
      have f1 : w2.frozen? ⟨(w.heap.size + 1 + 1 + 1), 1, none⟩ = false := frozen_of_blk HB.out 1
      clear g1 g2 r0 r1 r2' r3 r4 r5 r6 u0 u1 u2 u3 u4 u5 u6
      clear hb hbe HE
      go_wp2
      have z0 : ((w2.setCell ⟨(w.heap.size + 1 + 1 + 1), 0, none⟩ (.int .i64 0)).setCell ⟨(w.heap.size + 1 + 1 + 1), 1, none⟩ (.int .i64 0)).heap[(w.heap.size + 1 + 1 + 1)]? = some (.cells #[.int .i64 0, .int .i64 0] 53 (0, 0)) := by
        have h1 := set_blk (cs := [.int .i64 0, .int .i64 0]) HB.out (o := 0) (.int .i64 0)
        exact set_blk h1 (o := 1) (.int .i64 0)
      have y0 : ((w2.setCell ⟨(w.heap.size + 1 + 1 + 1), 0, none⟩ (.int .i64 0)).setCell ⟨(w.heap.size + 1 + 1 + 1), 1, none⟩ (.int .i64 0)).cell? ⟨(w.heap.size + 1 + 1 + 1), 0, none⟩ = some (.int .i64 0) := cell_of_blk z0 rfl
      have y1 : ((w2.setCell ⟨(w.heap.size + 1 + 1 + 1), 0, none⟩ (.int .i64 0)).setCell ⟨(w.heap.size + 1 + 1 + 1), 1, none⟩ (.int .i64 0)).cell? ⟨(w.heap.size + 1 + 1 + 1), 1, none⟩ = some (.int .i64 0) := cell_of_blk z0 rfl
      exact bodyPost_ret (v := .tuple #[.agg #[.int .i64 0, .int .i64 0], .int .i64 BE2]) (by simp [results, Try.results38, go_sem, y0, y1]) rfl ⟨by rw [hre.out], (E2.out.setCell (p := ⟨(w.heap.size + 1 + 1 + 1), 0, none⟩) (by show w.heap.size ≤ (w.heap.size + 1 + 1 + 1); omega) _).setCell (p := ⟨(w.heap.size + 1 + 1 + 1), 1, none⟩) (by show w.heap.size ≤ (w.heap.size + 1 + 1 + 1); omega) _⟩
    · have E2 := Lib.hid (E1.out.trans hb)
      have hre := Lib.hid (show fe = (btwV (sF th bd r) (sF th bd r2) (n1 - 1) 0, 0) from by rw [HE.out, if_neg (by simp), if_neg (by simp)])
      have h76 := between76 (n1 - 1) b b2 _ _ _ _ th bd r r2 _ hv.out (HVR2.out rfl) (by rw [← HN.out]; omega) w2 (HYO.out.at_.ext hb) hyo2
      obtain ⟨x, hx⟩ : ∃ x, x = (btwV (sF th bd r) (sF th bd r2) (n1 - 1) 0).1 := ⟨_, rfl⟩
      obtain ⟨y, hy⟩ : ∃ y, y = (btwV (sF th bd r) (sF th bd r2) (n1 - 1) 0).2 := ⟨_, rfl⟩
      rw [← hx, ← hy] at h76
      have hre := Lib.hid (show fe = ((x, y), 0) from by rw [hre.out, hx, hy])
      have H76 := Lib.hid h76
      have HB1 := Lib.hid (block_ext hb (block_ext HBX.out HB0.out))
      clear g1 g2 r0 r1 r2' r3 r4 r5 r6 u0 u1 u2 u3 u4 u5 u6
      clear hb HE hyo2 hx hy h76
      go_wp2_with fail
      refine H76.out.mono ?_
      rintro e w3 ⟨rfl, hb⟩
      have E3 := Lib.hid (E2.out.trans hb)
      have HB := Lib.hid (block_ext hb HB1.out)
      have q0 : w3.cell? ⟨(w.heap.size + 1 + 1 + 1), 0, none⟩ = some (.int .i64 0) := cell_of_blk HB.out rfl
      have q1 : w3.cell? ⟨(w.heap.size + 1 + 1 + 1), 1, none⟩ = some (.int .i64 0) := cell_of_blk HB.out rfl
      have f0 : w3.frozen? ⟨(w.heap.size + 1 + 1 + 1), 0, none⟩ = false := frozen_of_blk HB.out 0
      have f1 : w3.frozen? ⟨(w.heap.size + 1 + 1 + 1), 1, none⟩ = false := frozen_of_blk HB.out 1
      clear hb
      go_wp2
      have z0 : ((w3.setCell ⟨(w.heap.size + 1 + 1 + 1), 0, none⟩ (.int .i64 x)).setCell ⟨(w.heap.size + 1 + 1 + 1), 1, none⟩ (.int .i64 y)).heap[(w.heap.size + 1 + 1 + 1)]? = some (.cells #[.int .i64 x, .int .i64 y] 53 (0, 0)) := by
        have h1 := set_blk (cs := [.int .i64 0, .int .i64 0]) HB.out (o := 0) (.int .i64 x)
        exact set_blk h1 (o := 1) (.int .i64 y)
      have y0 : ((w3.setCell ⟨(w.heap.size + 1 + 1 + 1), 0, none⟩ (.int .i64 x)).setCell ⟨(w.heap.size + 1 + 1 + 1), 1, none⟩ (.int .i64 y)).cell? ⟨(w.heap.size + 1 + 1 + 1), 0, none⟩ = some (.int .i64 x) := cell_of_blk z0 rfl
      have y1 : ((w3.setCell ⟨(w.heap.size + 1 + 1 + 1), 0, none⟩ (.int .i64 x)).setCell ⟨(w.heap.size + 1 + 1 + 1), 1, none⟩ (.int .i64 y)).cell? ⟨(w.heap.size + 1 + 1 + 1), 1, none⟩ = some (.int .i64 y) := cell_of_blk z0 rfl
      exact bodyPost_ret (v := .tuple #[.agg #[.int .i64 x, .int .i64 y], .int .i64 0]) (by simp [results, Try.results38, go_sem, y0, y1]) rfl ⟨by rw [hre.out], (E3.out.setCell (p := ⟨(w.heap.size + 1 + 1 + 1), 0, none⟩) (by show w.heap.size ≤ (w.heap.size + 1 + 1 + 1); omega) _).setCell (p := ⟨(w.heap.size + 1 + 1 + 1), 1, none⟩) (by show w.heap.size ≤ (w.heap.size + 1 + 1 + 1); omega) _⟩
end Go.Proofs.Ytcgheakadfjofaa
