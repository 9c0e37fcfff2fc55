/- lacking: by how much prices are too low. -/
import Derived.Test.YtcgheakadfjofaaD1
import Derived.Test.YtcgheakadfjofaaB19
import Derived.Deep.MidRow
namespace Go.Proofs.Ytcgheakadfjofaa
open Go.RowKit Go.Shelf
set_option linter.unusedVariables false
set_option linter.unusedSimpArgs false
attribute [local go_sem] Oper.semAt_some
def z61 : Array Value := (zeros.map (Value.int .i64)).toArray
/-- A table in a block that is new since a world. -/
structure TabOwn (w₀ W : World) (b : Nat) (xs : List Int) : Prop where
  blk : W.heap[b]? = some (.cells (xs.map (Value.int .i64)).toArray 91 (0, 0))
  new : w₀.heap.size ≤ b
  ext0 : Ext w₀ W
theorem TabOwn.ext {w₀ W W' : World} {b : Nat} {xs : List Int} (h : TabOwn w₀ W b xs) (hb : Ext W W') : TabOwn w₀ W' b xs := ⟨block_ext hb h.blk, h.new, h.ext0.trans hb⟩
theorem TabOwn.stored {w₀ W : World} {b : Nat} {xs : List Int} (h : TabOwn w₀ W b xs) (k : Nat) (x : Int) : TabOwn w₀ (W.setCell ⟨b, k, none⟩ (.int .i64 x)) b (xs.set k x) := by
  refine ⟨?_, h.new, grown_new h.ext0 (grown_set W b k (.int .i64 x)) h.new⟩
  rw [set_blk h.blk, List.map_set]
theorem TabOwn.cell {w₀ W : World} {b : Nat} {xs : List Int} (h : TabOwn w₀ W b xs) {k : Nat} (hk : k < xs.length) : W.cell? ⟨b, k, none⟩ = some (.int .i64 (xs.getD k 0)) :=
  cell_of_blk h.blk (by simp [List.getD, hk])
theorem TabOwn.free {w₀ W : World} {b : Nat} {xs : List Int} (h : TabOwn w₀ W b xs) (k : Nat) : W.frozen? ⟨b, k, none⟩ = false := frozen_of_blk h.blk k
theorem tab_new (w : World) : TabOwn (w.alloc (.cells z61 91)) ((w.alloc (.cells z61 91)).alloc (.cells z61 91)) (w.heap.size + 1) zeros :=
  ⟨by have := heap_alloc_new (w.alloc (.cells z61 91)) (.cells z61 91); simpa [World.size_alloc, z61] using this, by simp, Ext.alloc (Ext.refl _) _⟩
theorem gr_bd {l : List Int} {M : Int} (hM : 0 ≤ M) (h : ∀ x ∈ l, 0 ≤ x ∧ x ≤ M) : 0 ≤ gr l ∧ gr l ≤ M := by
  by_cases e : l = []
  · subst e; exact ⟨Int.le_refl _, hM⟩
  · exact h _ (gr_mem e)
def lackK (L : Nat → Int) (k : Nat) : List Int := (List.range 61).map fun i => if i < k then L i else 0
theorem lackK_len (L : Nat → Int) (k : Nat) : (lackK L k).length = 61 := by simp [lackK]
theorem lackK_zero (L : Nat → Int) : lackK L 0 = zeros := by
  unfold lackK zeros
  apply List.ext_getElem (by rw [List.length_map, List.length_range, List.length_replicate])
  intro i h1 h2
  rw [List.getElem_map, List.getElem_range, List.getElem_replicate, if_neg (Nat.not_lt_zero i)]
theorem z61_get {j : Nat} (h : j < 61) : z61[j]? = some (.int .i64 0) := by
  unfold z61 zeros
  rw [List.getElem?_toArray, List.getElem?_map, List.getElem?_replicate_of_lt h]; rfl
theorem lackK_set (L : Nat → Int) {k : Nat} (hk : k < 61) : (lackK L k).set k (L k) = lackK L (k + 1) := by
  apply List.ext_getElem
  · simp [lackK]
  · intro i h1 h2
    rw [List.getElem_set]
    by_cases e : k = i
    · subst e; simp [lackK]
    · rw [if_neg e]
      simp [lackK]
      by_cases h3 : i < k
      · rw [if_pos h3, if_pos (by omega)]
      · rw [if_neg h3, if_neg (by omega)]
theorem results_cell_mid {P : Program} {fn : Func} {p : Tmp} {ty : TypeId} (h : fn.results = #[.cell p ty]) (tmps : Array Value) (w : World) (b o : Nat) (cs : List Value) (d : TypeDesc)
    (hp : tmps.getD p undef = .pointer (some ⟨b, o, none⟩)) (hc : w.rangeAt b o cs) (hu : P.underlying ty = some d) (hd : d.isRow = true) (hi : (P.info? ty).map (·.size) = some cs.length) :
    (results fn tmps).run P w = .ok (.agg cs.toArray) w := by
  have hp' : tmps[p]?.getD undef = .pointer (some ⟨b, o, none⟩) := by simpa using hp
  simp [results, h, hp', asAddr, run_loadVar_mid w b o ty cs d hc hu hd hi]
theorem Try.info91 : (Try.prog.info? 91).map (·.size) = some 61 := by kernel_rfl
theorem below_setCells {B b : Nat} {a : World} (hb : B ≤ b) : ∀ (l : List Value) (o : Nat) {w : World}, Below B a w → Below B a (w.setCells b o l)
  | [], _, _, h => h
  | v :: l, o, _, h => below_setCells hb l (o + 1) (h.setCell (p := ⟨b, o, none⟩) hb v)
set_option maxRecDepth 100000 in
set_option maxHeartbeats 4000000 in
theorem lacking66 (F : Nat → Nat → Int) (n b : Nat) (vt vb : Value) (th bd : List Int) (r : Rl) (ps : List Int) (hv : Vw th bd r) (hF : F = sF th bd r) (hn : th.length = n + 1) (w : World) (hy : YardAt w b vt vb th bd r ps) (hps : ∀ j, 0 ≤ ps.getD j 0 ∧ ps.getD j 0 ≤ 1099511627776) :
    Calls Try.prog 66 #[.pointer (some ⟨b, 0, none⟩)] w fun e w' => e = .returned (.agg ((lackK (lackV F n (fun j => ps.getD j 0)) (n + 1)).map (Value.int .i64)).toArray) ∧ Ext w w' := by
  obtain ⟨hl, a, cap, rfl⟩ := hy.th.shape
  obtain ⟨c0, -⟩ := hy.cells
  have hn61 := hv.most
  rw [hn] at c0 hl hn61 hy
  have hblt : b < w.heap.size := lt_of_cell c0
  have c0u := fun (o o' : Obj) => cell_ext (Ext.alloc (Ext.alloc (Ext.refl w) o) o') c0
  have hFb : ∀ i p, p ∈ partsL F n i → p.1 < 61 ∧ 0 ≤ p.2 ∧ p.2 ≤ 1099511627776 := fun i p hp => part_bd hv (hF ▸ hp) hn
  obtain ⟨W0, hW0⟩ : ∃ W0, W0 = w.alloc (.cells z61 91) := ⟨_, rfl⟩
  have E0 := Lib.hid (show Ext w W0 from by rw [hW0]; exact Ext.alloc (Ext.refl _) _)
  have HB0 := Lib.hid (show W0.heap[w.heap.size]? = some (.cells z61 91 (0, 0)) from by rw [hW0]; exact heap_alloc_new _ _)
  have HT0 := Lib.hid (show TabOwn W0 ((w.alloc (.cells z61 91)).alloc (.cells z61 91)) (w.heap.size + 1) zeros from by rw [hW0]; exact tab_new w)
  obtain ⟨L, hL⟩ : ∃ L, L = lackV F n (fun j => ps.getD j 0) := ⟨_, rfl⟩
  have HLV := Lib.hid (show ∀ i, L i = max 0 (gr (((partsL F n i).filter fun _ => true).map fun p => p.2 + ps.getD p.1 0) - ps.getD i 0) from fun i => by
    rw [hL, filter_true _ _ fun _ _ => rfl]; rfl)
  rw [← hL]
  have HFB := Lib.hid hFb; have HPS := Lib.hid hps; have HV := Lib.hid hv; have HF := Lib.hid hF; have HN := Lib.hid hn; have HYA := Lib.hid hy
  have LKL := Lib.hid (lackK_len L)
  have HLZ := Lib.hid (lackK_zero L)
  clear hFb hps hv hF hn hy hL c0 hW0
  go_enter Try.func66, Try.ntmps66
  go_wp2_with fail
  clear c0u
  go_loopw [11] (fun s wr => ∃ k : Nat, k ≤ n + 1 ∧ s = .int .i64 (k : Int) ∧ Hid (TabOwn W0 wr (w.heap.size + 1) (lackK L k))) (fun s wr => (n + 1 - (intOf s).toNat))
  case atStart => exact ⟨0, Nat.zero_le _, rfl, Lib.hid (by rw [HLZ.out]; exact HT0.out)⟩
  case round =>
    obtain ⟨i, hi, rfl, HY⟩ := hrel
    by_cases hlt : i < n + 1
    · have hd1 : decide ((i : Int) < (n : Int) + 1) = true := decide_eq_true (by omega)
      have hi0 : (0 : Int) ≤ (i : Int) := by omega
      have hi61 : (i : Int) < 61 := by omega
      have hit : (i : Int).toNat = i := by omega
      have hiw : IntKind.i64.wrap ((i : Int) + 1) = (i : Int) + 1 := wrapi64 _ (by omega) (by omega)
      have yw := HYA.out.ext (E0.out.trans HY.out.ext0)
      have kp := yw.price (k := i) (by omega)
      have hlv := HLV.out i
      have hbne : w.heap.size + 1 ≠ b := by omega
      have hpi := HPS.out i
      have h83 := fun (X : World) (hX : Ext wr X) (hc1 : X.cell? ⟨wr.heap.size + 1, 0, none⟩ = some (.int .i64 (i : Int))) (hc2 : X.cell? ⟨wr.heap.size, 0, none⟩ = some (.pointer (some ⟨b, 0, none⟩))) =>
        great_any F n (wr.heap.size + 1) wr.heap.size b i _ vb th bd r _ (fun _ => true) (fun p => p.2 + ps.getD p.1 0) HV.out HF.out HN.out wr yw X hX (by omega) hc1 hc2
          (fun p hp Y hE => any75 i p.1 p.2 Y)
          (fun p hp _ Y hE => worth84 b _ vb th bd r _ i p.1 p.2 Y ((yw.ext hX).ext hE) (HFB.out i p hp).1 (HFB.out i p hp).2 (HPS.out _))
      have hgb : 0 ≤ gr (((partsL F n i).filter fun _ => true).map fun p => p.2 + ps.getD p.1 0) ∧ gr (((partsL F n i).filter fun _ => true).map fun p => p.2 + ps.getD p.1 0) ≤ 2199023255552 := gr_bd (by omega) fun x hx => by
        obtain ⟨p, hp, rfl⟩ := List.mem_map.1 hx
        have h1 := HFB.out i p (List.mem_filter.1 hp).1
        have h2 := HPS.out p.1
        omega
      obtain ⟨g, hg⟩ : ∃ g, g = gr (((partsL F n i).filter fun _ => true).map fun p => p.2 + ps.getD p.1 0) := ⟨_, rfl⟩
      obtain ⟨pi, hpiv⟩ : ∃ pi, pi = ps.getD i 0 := ⟨_, rfl⟩
      rw [← hg] at h83 hlv hgb
      rw [← hpiv] at kp hlv hpi
      have hsw : IntKind.i64.wrap (g - pi) = g - pi := wrapi64 _ (by omega) (by omega)
      have H83 := Lib.hid h83; have HLI := Lib.hid hlv
      clear h83 hlv hg hpiv yw
      by_cases hgp : pi < g
      · have hg1 : 0 < g - pi := by omega
        have HLE := Lib.hid (show L i = g - pi from by rw [HLI.out]; omega)
        go_wp2
        refine wp_region_order (fun X : World => X.cell? ⟨b, 9 + i, none⟩ = some (.int .i64 pi)) [0, 1, 2, 4, 5, 7, 8, 9, 10, 11, 12, 3, 6, 13, 14, 15, 16] (by kernel_rfl) (by kernel_rfl) (by exact cell_ext (Ext.drew (Ext.refl wr)) kp) (fun hHeld => ?_)
        simp only [opsIn, List.filterMap_cons, List.filterMap_nil, List.getElem?_toArray, List.getElem?_cons_succ, List.getElem?_cons_zero]
        refine' text_chunk 11 (by kernel_rfl) hHeld ?ck1 ?cr1
        case ck1 =>
          intro W hSw
          have hSW := hSw
          try dsimp only at hSW
          clear hSw
          simp only [List.take_succ_cons, List.take_zero, List.drop_succ_cons, List.drop_zero]
          repeat (go_big_quiet_step (fail))
          exact wpQuiet_nil rfl
        simp only [List.take_succ_cons, List.take_zero, List.drop_succ_cons, List.drop_zero]
        refine text_call (by rfl) (by rfl) (fun K hK => ?_)
        go_simp
        (go_at_call 80; refine (parts80 b i _).mono ?_; rintro e w8 ⟨rfl, rfl⟩)
        all_goals (try (go_wp2_with fail))
        refine hK.out _ _ (by exact cell_ext (Ext.alloc (Ext.alloc (Ext.refl _) _) _) hHeld) (fun hHeld => ?_)
        clear hK K
        try simp only [Act.put, List.setIfInBounds_toArray, List.set_cons_zero, List.set_cons_succ]
        refine text_call (by rfl) (by rfl) (fun K hK => ?_)
        go_simp
        go_at_call 83
        refine (H83.out _ ?_ ?_ ?_).mono ?_
        · exact Ext.alloc (Ext.alloc (Ext.drew (Ext.refl _)) _) _
        · exact World.cell?_alloc_at _ _ _ _ (by simp)
        · exact cell_ext (Ext.alloc (Ext.refl _) _) (World.cell?_alloc_at _ _ _ _ (by simp))
        rintro e w9 ⟨rfl, hb9⟩
        have hE9 := Ext.trans (Ext.alloc (Ext.alloc (Ext.drew (Ext.refl wr)) (.cells #[.pointer (some ⟨b, 0, none⟩)] 75)) (.cells #[.int .i64 (i : Int)] 3)) hb9
        have HY9 := Lib.hid (HY.out.ext hE9)
        have k9 := HY9.out.cell (k := i) (by rw [LKL.out]; omega)
        have f9 := HY9.out.free i
        clear hE9
        all_goals (try (go_wp2_with fail))
        refine hK.out _ _ (by exact cell_ext hb9 hHeld) (fun hHeld => ?_)
        clear hK K
        try simp only [Act.put, List.setIfInBounds_toArray, List.set_cons_zero, List.set_cons_succ]
        refine' text_chunk 1 (by kernel_rfl) hHeld ?ck2 ?cr2
        case ck2 =>
          intro W hSw
          have hSW := hSw
          try dsimp only at hSW
          clear hSw
          simp only [List.take_succ_cons, List.take_zero, List.drop_succ_cons, List.drop_zero]
          repeat (go_big_quiet_step (fail))
          exact wpQuiet_nil rfl
        simp only [List.take_succ_cons, List.take_zero, List.drop_succ_cons, List.drop_zero]
        refine' text_take (by rfl) (by rfl) ?ck3 ?cr3
        case ck3 => (intro W hSw; (try dsimp only at hSw); go_simp; all_goals with_reducible rfl)
        try simp only [Act.put, List.setIfInBounds_toArray, List.set_cons_zero, List.set_cons_succ]
        refine' text_chunk 1 (by kernel_rfl) hHeld ?ck4 ?cr4
        case ck4 =>
          intro W hSw
          have hSW := hSw
          try dsimp only at hSW
          clear hSw
          simp only [List.take_succ_cons, List.take_zero, List.drop_succ_cons, List.drop_zero]
          repeat (go_big_quiet_step (fail))
          exact wpQuiet_nil rfl
        simp only [List.take_succ_cons, List.take_zero, List.drop_succ_cons, List.drop_zero]
        refine text_call (by rfl) (by rfl) (fun K hK => ?_)
        go_simp
        all_goals (try (go_wp2_with fail))
        refine hK.out _ _ (by exact (World.cell?_setCell_far _ _ _ _ hbne).trans hHeld) (fun hHeld => ?_)
        clear hK K
        try simp only [Act.put, List.setIfInBounds_toArray, List.set_cons_zero, List.set_cons_succ]
        refine text_done ?_
        clear kp hHeld k9 f9
        go_wp2
        have HS := HY9.out.stored i (L i)
        rw [lackK_set L (by omega), HLE.out] at HS
        go_roundw
        case rel => exact ⟨i + 1, by omega, by go_num, Lib.hid HS⟩
        case measure => simp [intOf]; omega
      · have hg1 : ¬ 0 < g - pi := by omega
        have hg2 : g ≤ pi := by omega
        have HLE := Lib.hid (show L i = 0 from by rw [HLI.out]; omega)
        go_wp2
        refine wp_region_order (fun X : World => X.cell? ⟨b, 9 + i, none⟩ = some (.int .i64 pi)) [0, 1, 2, 4, 5, 7, 8, 9, 10, 11, 12, 3, 6, 13, 14, 15, 16] (by kernel_rfl) (by kernel_rfl) (by exact cell_ext (Ext.drew (Ext.refl wr)) kp) (fun hHeld => ?_)
        simp only [opsIn, List.filterMap_cons, List.filterMap_nil, List.getElem?_toArray, List.getElem?_cons_succ, List.getElem?_cons_zero]
        refine' text_chunk 11 (by kernel_rfl) hHeld ?ck5 ?cr5
        case ck5 =>
          intro W hSw
          have hSW := hSw
          try dsimp only at hSW
          clear hSw
          simp only [List.take_succ_cons, List.take_zero, List.drop_succ_cons, List.drop_zero]
          repeat (go_big_quiet_step (fail))
          exact wpQuiet_nil rfl
        simp only [List.take_succ_cons, List.take_zero, List.drop_succ_cons, List.drop_zero]
        refine text_call (by rfl) (by rfl) (fun K hK => ?_)
        go_simp
        (go_at_call 80; refine (parts80 b i _).mono ?_; rintro e w8 ⟨rfl, rfl⟩)
        all_goals (try (go_wp2_with fail))
        refine hK.out _ _ (by exact cell_ext (Ext.alloc (Ext.alloc (Ext.refl _) _) _) hHeld) (fun hHeld => ?_)
        clear hK K
        try simp only [Act.put, List.setIfInBounds_toArray, List.set_cons_zero, List.set_cons_succ]
        refine text_call (by rfl) (by rfl) (fun K hK => ?_)
        go_simp
        go_at_call 83
        refine (H83.out _ ?_ ?_ ?_).mono ?_
        · exact Ext.alloc (Ext.alloc (Ext.drew (Ext.refl _)) _) _
        · exact World.cell?_alloc_at _ _ _ _ (by simp)
        · exact cell_ext (Ext.alloc (Ext.refl _) _) (World.cell?_alloc_at _ _ _ _ (by simp))
        rintro e w9 ⟨rfl, hb9⟩
        have hE9 := Ext.trans (Ext.alloc (Ext.alloc (Ext.drew (Ext.refl wr)) (.cells #[.pointer (some ⟨b, 0, none⟩)] 75)) (.cells #[.int .i64 (i : Int)] 3)) hb9
        have HY9 := Lib.hid (HY.out.ext hE9)
        have k9 := HY9.out.cell (k := i) (by rw [LKL.out]; omega)
        have f9 := HY9.out.free i
        clear hE9
        all_goals (try (go_wp2_with fail))
        refine hK.out _ _ (by exact cell_ext hb9 hHeld) (fun hHeld => ?_)
        clear hK K
        try simp only [Act.put, List.setIfInBounds_toArray, List.set_cons_zero, List.set_cons_succ]
        refine' text_chunk 1 (by kernel_rfl) hHeld ?ck6 ?cr6
        case ck6 =>
          intro W hSw
          have hSW := hSw
          try dsimp only at hSW
          clear hSw
          simp only [List.take_succ_cons, List.take_zero, List.drop_succ_cons, List.drop_zero]
          repeat (go_big_quiet_step (fail))
          exact wpQuiet_nil rfl
        simp only [List.take_succ_cons, List.take_zero, List.drop_succ_cons, List.drop_zero]
        refine' text_take (by rfl) (by rfl) ?ck7 ?cr7
        case ck7 => (intro W hSw; (try dsimp only at hSw); go_simp; all_goals with_reducible rfl)
        try simp only [Act.put, List.setIfInBounds_toArray, List.set_cons_zero, List.set_cons_succ]
        refine' text_chunk 1 (by kernel_rfl) hHeld ?ck8 ?cr8
        case ck8 =>
          intro W hSw
          have hSW := hSw
          try dsimp only at hSW
          clear hSw
          simp only [List.take_succ_cons, List.take_zero, List.drop_succ_cons, List.drop_zero]
          repeat (go_big_quiet_step (fail))
          exact wpQuiet_nil rfl
        simp only [List.take_succ_cons, List.take_zero, List.drop_succ_cons, List.drop_zero]
        refine text_call (by rfl) (by rfl) (fun K hK => ?_)
        go_simp
        all_goals (try (go_wp2_with fail))
        refine hK.out _ _ (by exact (World.cell?_setCell_far _ _ _ _ hbne).trans hHeld) (fun hHeld => ?_)
        clear hK K
        try simp only [Act.put, List.setIfInBounds_toArray, List.set_cons_zero, List.set_cons_succ]
        refine text_done ?_
        clear kp hHeld k9 f9
        go_wp2
        have HS := HY9.out.stored i (L i)
        rw [lackK_set L (by omega), HLE.out] at HS
        go_roundw
        case rel => exact ⟨i + 1, by omega, by go_num, Lib.hid HS⟩
        case measure => simp [intOf]; omega
    · have hd1 : decide ((i : Int) < (n : Int) + 1) = false := decide_eq_false (by omega)
      obtain rfl : i = n + 1 := by omega
      have HZ5 := Lib.hid HY.out.blk
      have HZ6 := Lib.hid (block_ext HY.out.ext0 HB0.out)
      have HE5 := Lib.hid (E0.out.trans HY.out.ext0)
      obtain ⟨A, hA⟩ : ∃ A, A = ((lackK L (n + 1)).map (Value.int .i64)).toArray := ⟨_, rfl⟩
      rw [← hA] at HZ5
      have HA := Lib.hid hA
      have HSZ := Lib.hid (show A.size = 61 from by rw [hA]; simp [lackK])
      have HONE := Lib.hid (show A.all (·.oneCell') = true from by
        rw [hA]; exact all_oneCell_toArray fun v hv => by obtain ⟨z, -, rfl⟩ := List.mem_map.1 hv; rfl)
      have HINF := Lib.hid (show (Try.prog.info? 91).map (·.size) = some A.size from by rw [HSZ.out]; exact Try.info91)
      have HTH := Lib.hid (show wr.there w.heap.size 0 A.size from fun j hj => by
        rw [Nat.zero_add]
        refine ⟨?_, frozen_of_blk HZ6.out _⟩
        rw [cell_of_blk (v := .int .i64 0) HZ6.out (z61_get (by rw [HSZ.out] at hj; exact hj))]; rfl)
      clear hA
      go_wp2_with (first | (refine wpList_load_row rfl _ _ rfl _ rfl _ _ _ _ HZ5.out Try.underlying91 rfl HINF.out ?_) | (refine wpList_store_mid rfl _ _ _ rfl _ _ A rfl rfl HTH.out HINF.out HONE.out ?_))
      refine bodyPost_ret (v := .agg A) ?_ rfl ⟨by rw [HA.out], below_setCells (by omega) _ _ HE5.out⟩
      have hrg := World.rangeAt_setCells_same wr w.heap.size 0 A.toList (by simpa using HTH.out)
      have hAl : Value.agg A = .agg A.toList.toArray := by simp
      rw [hAl]
      exact results_cell_mid (P := Try.prog) (fn := Try.f66) Try.results66 _ _ _ _ A.toList _ rfl hrg Try.underlying91 rfl (by simpa using HINF.out)
end Go.Proofs.Ytcgheakadfjofaa
