/- The prices of a yard, as they are stored; and cleared. price, by its contract. -/
import Derived.Test.YtcgheakadfjofaaB11
import Derived.Test.YtcgheakadfjofaaZ3
import Derived.Lib.SliceRun
import Derived.Lib.BufferOwn
namespace Go.Proofs.Ytcgheakadfjofaa
open Go.RowKit Go.Shelf
set_option linter.unusedVariables false
set_option linter.unusedSimpArgs false
theorem grown_set (W : World) (b o : Nat) (v : Value) : W.grownBy (W.setCell ⟨b, o, none⟩ v) (some b) := by
  refine ⟨rfl, rfl, rfl, by simp [World.setCell], fun k _ hk => ?_⟩
  show (W.heap.modify b _)[k]? = _
  rw [Array.getElem?_modify, if_neg (fun e => hk (by rw [e]))]
theorem grown_sets (b : Nat) : ∀ (vs : List Value) (o : Nat) (w : World), w.grownBy (w.setCells b o vs) (some b)
  | [], o, w => World.grownBy.refl _ _
  | v :: r, o, w => Lib.grownBy_trans (grown_set w b o v) (grown_sets b r (o + 1) _)
theorem set_blk {W : World} {b o : Nat} {cs : List Value} {t : TypeId} {fr : Nat × Nat} (h : W.heap[b]? = some (.cells cs.toArray t fr)) (v : Value) : (W.setCell ⟨b, o, none⟩ v).heap[b]? = some (.cells (cs.set o v).toArray t fr) := by
  show (W.heap.modify b _)[b]? = _
  rw [Array.getElem?_modify, if_pos rfl, h]
  simp
def writeAt : List Value → Nat → List Value → List Value
  | cs, _, [] => cs
  | cs, o, v :: r => writeAt (cs.set o v) (o + 1) r
theorem sets_blk {b : Nat} {t : TypeId} {fr : Nat × Nat} : ∀ (vs : List Value) (o : Nat) (W : World) (cs : List Value), W.heap[b]? = some (.cells cs.toArray t fr) → (W.setCells b o vs).heap[b]? = some (.cells (writeAt cs o vs).toArray t fr)
  | [], o, W, cs, h => h
  | v :: r, o, W, cs, h => sets_blk r (o + 1) _ _ (set_blk h v)
theorem ycL_set (vt vb : Value) (r : Rl) (ps : List Int) (k : Nat) (x : Int) : (ycL vt vb r ps).set (9 + k) (.int .i64 x) = ycL vt vb r (ps.set k x) := by
  rw [show 9 + k = k + 9 from by omega]
  simp [ycL, List.map_set]
theorem ycL_write (vt vb : Value) (r : Rl) : ∀ (vs : List Int) (k : Nat) (ps : List Int), k + vs.length = ps.length → writeAt (ycL vt vb r ps) (9 + k) (vs.map (Value.int .i64)) = ycL vt vb r (ps.take k ++ vs)
  | [], k, ps, h => by
    show ycL vt vb r ps = _
    rw [List.take_of_length_le (by simp at h; omega), List.append_nil]
  | v :: vs, k, ps, h => by
    simp only [List.map_cons, writeAt]
    rw [ycL_set, show 9 + k + 1 = 9 + (k + 1) from rfl, ycL_write vt vb r vs (k + 1) (ps.set k v) (by simp at h ⊢; omega)]
    congr 1
    have hk : k < ps.length := by simp at h; omega
    rw [List.take_set, List.take_add_one]
    simp only [List.getElem?_eq_getElem hk, Option.toList_some]
    rw [List.set_append_right _ _ (by simp; omega)]
    simp [Nat.min_eq_left (Nat.le_of_lt hk)]
theorem other_blk {W W' : World} {b g : Nat} (hg : W.grownBy W' (some b)) (hne : g ≠ b) (hlt : g < W.heap.size) : W'.heap[g]? = W.heap[g]? := hg.block g hlt (fun e => hne (by cases e; rfl))
theorem cell_grown {W W' : World} {b g o : Nat} {v : Value} (hg : W.grownBy W' (some b)) (hne : g ≠ b) (h : W.cell? ⟨g, o, none⟩ = some v) : W'.cell? ⟨g, o, none⟩ = some v := by
  have := other_blk hg hne (lt_of_cell h)
  rw [← h]
  simp only [World.cell?, this]
theorem grown_new {w w1 w' : World} {bt : Nat} (h1 : Ext w w1) (hg : w1.grownBy w' (some bt)) (hbt : w.heap.size ≤ bt) : Ext w w' :=
  ⟨hg.os.trans h1.os, hg.tape.trans h1.tape, hg.output.trans h1.output, Nat.le_trans h1.size hg.size, fun k hk => (hg.block k (Nat.lt_of_lt_of_le hk h1.size) (fun e => by have := Option.some.inj e; omega)).trans (h1.block k hk)⟩
/-- A yard in a block of its own: its stem was there before. -/
structure YardOwn (w₀ W : World) (b : Nat) (vt vb : Value) (th bd : List Int) (r : Rl) (ps : List Int) : Prop where
  at_ : YardAt W b vt vb th bd r ps
  th0 : Reads w₀ vt th
  bd0 : Reads w₀ vb bd
  new : w₀.heap.size ≤ b
  ext0 : Ext w₀ W
theorem YardOwn.ext {w₀ W W' : World} {b : Nat} {vt vb : Value} {th bd : List Int} {r : Rl} {ps : List Int} (h : YardOwn w₀ W b vt vb th bd r ps) (hb : Ext W W') : YardOwn w₀ W' b vt vb th bd r ps :=
  ⟨h.at_.ext hb, h.th0, h.bd0, h.new, h.ext0.trans hb⟩
theorem YardOwn.stored {w₀ W : World} {b : Nat} {vt vb : Value} {th bd : List Int} {r : Rl} {ps : List Int} (h : YardOwn w₀ W b vt vb th bd r ps) (k : Nat) (x : Int) : YardOwn w₀ (W.setCell ⟨b, 9 + k, none⟩ (.int .i64 x)) b vt vb th bd r (ps.set k x) := by
  have hE := grown_new h.ext0 (grown_set W b (9 + k) (.int .i64 x)) h.new
  refine ⟨⟨?_, h.th0.ext hE, h.bd0.ext hE, by rw [List.length_set]; exact h.at_.len⟩, h.th0, h.bd0, h.new, hE⟩
  rw [set_blk h.at_.blk, ycL_set]
theorem YardOwn.cleared {w₀ w : World} {b : Nat} {vt vb : Value} {th bd : List Int} {r : Rl} {ps : List Int} (h : YardOwn w₀ w b vt vb th bd r ps) : ∃ W1, (Builtin.clear_ #[22] 0 #[.slice (some ⟨b, 9, none⟩) 61 61]).run Try.prog w = .ok (.tuple #[]) W1 ∧ YardOwn w₀ W1 b vt vb th bd r zeros ∧ w.grownBy W1 (some b) := by
  have hr := Lib.run_clear_slice (P := Try.prog) w 22 2 0 (.int .i64 0) Try.underlying22 (fun w => by simp [zeroValue]; rfl) rfl rfl b 9 61 61 (by omega) (fun j hj => by rw [h.at_.price hj]; rfl) (fun j hj => frozen_of_blk h.at_.blk _)
  have hg := grown_sets b (List.replicate 61 (Value.int .i64 0)) 9 w
  have hE := grown_new h.ext0 hg h.new
  refine ⟨_, hr, ⟨⟨?_, h.th0.ext hE, h.bd0.ext hE, by simp [zeros]⟩, h.th0, h.bd0, h.new, hE⟩, hg⟩
  have h1 := sets_blk (List.replicate 61 (Value.int .i64 0)) 9 w _ h.at_.blk
  have h2 := ycL_write vt vb r zeros 0 ps (by rw [h.at_.len]; simp [zeros])
  rw [show zeros.map (Value.int .i64) = List.replicate 61 (Value.int .i64 0) from by simp [zeros]] at h2
  rw [h1, show (9 : Nat) = 9 + 0 from rfl, h2]
  simp
/-- The prices once those from a place on have been made. -/
def psK (q : Nat → Int) (k : Nat) : List Int := (List.range 61).map fun j => if k ≤ j then q j else 0
theorem psK_get (q : Nat → Int) {k j : Nat} (h : k ≤ j) (hj : j < 61) : (psK q k).getD j 0 = q j := by
  simp [psK, List.getD, hj, h]
theorem psK_start (q : Nat → Int) {k : Nat} (h : ∀ j, k ≤ j → q j = 0) : psK q k = zeros := by
  unfold psK zeros
  apply List.ext_getElem (by rw [List.length_map, List.length_range, List.length_replicate])
  intro i h1 h2
  rw [List.getElem_map, List.getElem_range, List.getElem_replicate]
  split
  · rename_i hk; exact h i hk
  · rfl
theorem psK_set (q : Nat → Int) {k : Nat} (hk : k < 61) : (psK q (k + 1)).set k (q k) = psK q k := by
  apply List.ext_getElem
  · simp [psK]
  · intro i h1 h2
    rw [List.getElem_set]
    by_cases e : k = i
    · subst e; simp [psK]
    · rw [if_neg e]
      simp [psK]
      by_cases h3 : k + 1 ≤ i
      · rw [if_pos h3, if_pos (by omega)]
      · rw [if_neg h3, if_neg (by omega)]
theorem psK_bd (q : Nat → Int) (M : Int) (hM : 0 ≤ M) (h : ∀ j, 0 ≤ q j ∧ q j ≤ M) (k j : Nat) : 0 ≤ (psK q k).getD j 0 ∧ (psK q k).getD j 0 ≤ M := by
  by_cases hj : j < 61
  · by_cases hk : k ≤ j
    · rw [psK_get q hk hj]; exact h j
    · simp [psK, List.getD, hj, hk]; omega
  · simp [psK, List.getD, hj]; omega
end Go.Proofs.Ytcgheakadfjofaa
namespace Go.Proofs.Ytcgheakadfjofaa
open Go.RowKit Go.Shelf
set_option linter.unusedVariables false
set_option linter.unusedSimpArgs false
attribute [local go_sem] Oper.semAt_some
theorem sF_le {th bd : List Int} {r : Rl} (hv : Vw th bd r) (a b : Nat) : sF th bd r a b ≤ 216000 := by
  unfold sF scl
  split; · omega
  split; · omega
  rename_i h1 h2
  obtain ⟨q1, q2, q3, q4, q5, q6, q7, q8, q9, q10, q11, q12, q13⟩ := hv.rule
  have ht := getD_le (hv.thick) (by omega) (by omega) ((b : Int)).toNat
  generalize th.getD ((b : Int)).toNat 0 = t at *
  generalize (b : Int) - a - r.tr = ln at *
  have s1 : 0 ≤ max 0 (t - r.off) := by omega
  have s2 : max 0 (t - r.off) ≤ 60 := by omega
  generalize max 0 (t - r.off) = s at *
  have p1 : 0 ≤ s * s := Int.mul_nonneg s1 s1
  have p2 : s * s ≤ 60 * 60 := Int.mul_le_mul s2 s2 s1 (by omega)
  have p3 : 0 ≤ s * s * ln := Int.mul_nonneg p1 (by omega)
  have p4 : s * s * ln ≤ 3600 * 60 := Int.mul_le_mul p2 (by omega) (by omega) (by omega)
  exact Int.le_trans (Int.ediv_le_self _ p3) (by omega)
theorem part_bd {th bd : List Int} {r : Rl} (hv : Vw th bd r) {n i : Nat} {p : Nat × Int} (hp : p ∈ partsL (sF th bd r) n i) (hn : th.length = n + 1) : p.1 < 61 ∧ 0 ≤ p.2 ∧ p.2 ≤ 1099511627776 := by
  have hm := hv.most
  rcases mem_partsL.1 hp with ⟨h1, rfl⟩ | ⟨h1, h2, h3, h4⟩
  · dsimp only; omega
  · have := sF_le hv i p.1; omega
set_option maxRecDepth 100000 in
set_option maxHeartbeats 8000000 in
theorem price_any (F : Nat → Nat → Int) (n b : Nat) (vt vb : Value) (th bd : List Int) (r : Rl) (ps : List Int) (hv : Vw th bd r) (hF : F = sF th bd r) (hn : th.length = n + 1) (w₀ w : World) (hy : YardOwn w₀ w b vt vb th bd r ps) :
    Calls Try.prog 70 #[.pointer (some ⟨b, 0, none⟩), .func (.func 75) #[] #[]] w fun e w' => e = .returned (.tuple #[]) ∧ YardOwn w₀ w' b vt vb th bd r (psK (bst F allB n) 0) ∧ w.grownBy w' (some b) := by
  obtain ⟨hl, a, cap, rfl⟩ := hy.at_.th.shape
  have hth := hv.most
  obtain ⟨W1, hcl, hy1, hg1⟩ := hy.cleared
  obtain ⟨c0, -⟩ := hy1.at_.cells
  have hFb : ∀ i p, p ∈ partsL F n i → p.1 < 61 ∧ 0 ≤ p.2 ∧ p.2 ≤ 1099511627776 := fun i p hp => part_bd hv (hF ▸ hp) hn
  have hQ : ∀ j, 0 ≤ bst F allB n j ∧ bst F allB n j ≤ 1099511627776 := fun j => by
    refine ⟨bst_nonneg _ _ _ _, ?_⟩
    by_cases hj : j ≤ n
    · have h1 := bst_bound (f := F) (lt := allB) (n := n) (M := 216000) (by omega) (fun a b => by rw [hF]; exact sF_le hv a b) j hj
      have h2 : (216000 : Int) * ((n : Int) - j) ≤ 216000 * 61 := Int.mul_le_mul_of_nonneg_left (by omega) (by omega)
      omega
    · rw [bst_past (by omega)]; omega
  rw [hn] at c0 hl hth hy1 ⊢
  have HFB := Lib.hid hFb; have HQ := Lib.hid hQ; have HV := Lib.hid hv; have HF := Lib.hid hF; have HN := Lib.hid hn
  have hw2 : IntKind.i64.wrap ((n : Int) + 1 - 2) = (n : Int) - 1 := by rw [show (n : Int) + 1 - 2 = n - 1 from by omega]; exact wrapi64 _ (by omega) (by omega)
  have hY1 := Lib.hid hy1; have HG1 := Lib.hid hg1
  clear hFb hQ hv hF hn hy1 hg1 hy
  go_enter Try.func70, Try.ntmps70
  go_wp2
  clear hcl
  go_loopw [4] (fun s wr => ∃ k : Nat, k ≤ n ∧ s = .int .i64 ((k : Int) - 1) ∧ Hid (YardOwn w₀ wr b (.slice a (n + 1) cap) vb th bd r (psK (bst F allB n) k)) ∧ Hid (w.grownBy wr (some b))) (fun s wr => (intOf s + 1).toNat)
  case atStart => exact ⟨n, Nat.le_refl _, by simp, Lib.hid (by rw [psK_start _ fun j hj => bst_past hj]; exact hY1.out), HG1⟩
  case round =>
    obtain ⟨k, hk, rfl, HY, HG⟩ := hrel
    by_cases hk0 : 1 ≤ k
    · obtain ⟨i, rfl⟩ : ∃ i, k = i + 1 := ⟨k - 1, by omega⟩
      rw [show (((i + 1 : Nat) : Int) - 1) = (i : Int) from by omega]
      have hi0 : (0 : Int) ≤ (i : Int) := by omega
      have hi61 : (i : Int) < 61 := by omega
      have hval : gr (((partsL F n i).filter (fun _ => true)).map fun p => p.2 + (psK (bst F allB n) (i + 1)).getD p.1 0) = bst F allB n i := by
        have h1 := price_bst (f := F) (lt := allB) (n := n) (i := i) (q := bst F allB n) (by omega) (fun j _ _ => rfl)
        rw [← h1]
        congr 1
        rw [filter_true _ (letP allB i) fun p _ => by simp [letP, allB], filter_true _ (fun _ => true) fun _ _ => rfl]
        apply List.map_congr_left
        intro p hp
        rw [psK_get _ (mem_parts_gt hp).1 (HFB.out i p hp).1]
      have h83 := fun (X : World) (hX : Ext wr X) (hc1 : X.cell? ⟨wr.heap.size + 1, 0, none⟩ = some (.int .i64 (i : Int))) (hc2 : X.cell? ⟨wr.heap.size, 0, none⟩ = some (.pointer (some ⟨b, 0, none⟩))) =>
        great_any F n (wr.heap.size + 1) wr.heap.size b i _ vb th bd r _ (fun _ => true) (fun p => p.2 + (psK (bst F allB n) (i + 1)).getD p.1 0) HV.out HF.out HN.out wr HY.out.at_ X hX (by omega) hc1 hc2
          (fun p hp Y hE => any75 i p.1 p.2 Y)
          (fun p hp _ Y hE => worth84 b _ vb th bd r _ i p.1 p.2 Y ((HY.out.at_.ext hX).ext hE) (HFB.out i p hp).1 (HFB.out i p hp).2 (psK_bd _ 1099511627776 (by omega) HQ.out _ _))
      rw [hval] at h83
      have H83 := Lib.hid h83
      clear h83 hval
      go_wp2
      refine wp_region_order (fun _ => True) [0, 1, 2, 3, 5, 6, 7, 9, 10, 4, 8, 11, 12] (by kernel_rfl) (by kernel_rfl) (by trivial) (fun hHeld => ?_)
      simp only [opsIn, List.filterMap_cons, List.filterMap_nil, List.getElem?_toArray, List.getElem?_cons_succ, List.getElem?_cons_zero]
      refine' text_chunk 9 (by kernel_rfl) hHeld ?ck1 ?cr1
      case ck1 =>
        intro W hSw
        have hSW := hSw
        try dsimp only at hSW
        clear hSw
        simp only [List.take_succ_cons, List.take_zero, List.drop_succ_cons, List.drop_zero]
        repeat (go_big_quiet_step (fail))
        exact wpQuiet_nil rfl
      simp only [List.take_succ_cons, List.take_zero, List.drop_succ_cons, List.drop_zero]
      refine text_call (by rfl) (by rfl) (fun K hK => ?_)
      go_simp
      (go_at_call 80; refine (parts80 b i _).mono ?_; rintro e w8 ⟨rfl, rfl⟩)
      all_goals (try (go_wp2_with fail))
      refine hK.out _ _ (by trivial) (fun hHeld => ?_)
      clear hK K
      try simp only [Act.put, List.setIfInBounds_toArray, List.set_cons_zero, List.set_cons_succ]
      refine text_call (by rfl) (by rfl) (fun K hK => ?_)
      go_simp
      go_at_call 83
      refine (H83.out _ ?_ ?_ ?_).mono ?_
      · exact Ext.alloc (Ext.alloc (Ext.drew (Ext.refl _)) _) _
      · exact World.cell?_alloc_at _ _ _ _ (by simp)
      · exact cell_ext (Ext.alloc (Ext.refl _) _) (World.cell?_alloc_at _ _ _ _ (by simp))
      rintro e w9 ⟨rfl, hb9⟩
      have hE9 := Ext.trans (Ext.alloc (Ext.alloc (Ext.drew (Ext.refl wr)) (.cells #[.pointer (some ⟨b, 0, none⟩)] 75)) (.cells #[.int .i64 (i : Int)] 3)) hb9
      have y9 := HY.out.ext hE9
      have c9 := y9.at_.price (show i < 61 by omega)
      have f9 := frozen_of_blk y9.at_.blk (9 + i)
      have Y9 := Lib.hid y9
      have HG9 := Lib.hid (Lib.grownBy_trans HG.out (grown_ext hE9 (some b)))
      clear hb9 hE9 y9
      all_goals (try (go_wp2_with fail))
      refine hK.out _ _ (by trivial) (fun hHeld => ?_)
      clear hK K
      try simp only [Act.put, List.setIfInBounds_toArray, List.set_cons_zero, List.set_cons_succ]
      refine' text_chunk 1 (by kernel_rfl) hHeld ?ck2 ?cr2
      case ck2 =>
        intro W hSw
        have hSW := hSw
        try dsimp only at hSW
        clear hSw
        simp only [List.take_succ_cons, List.take_zero, List.drop_succ_cons, List.drop_zero]
        repeat (go_big_quiet_step (fail))
        exact wpQuiet_nil rfl
      simp only [List.take_succ_cons, List.take_zero, List.drop_succ_cons, List.drop_zero]
      refine text_call (by rfl) (by rfl) (fun K hK => ?_)
      go_simp
      all_goals (try (go_wp2_with fail))
      refine hK.out _ _ (by trivial) (fun hHeld => ?_)
      clear hK K
      try simp only [Act.put, List.setIfInBounds_toArray, List.set_cons_zero, List.set_cons_succ]
      refine text_done ?_
      go_wp2
      go_roundw
      case rel => exact ⟨i, by omega, by go_num, (by have := Y9.out.stored i (bst F allB n i); rw [psK_set _ (by omega)] at this; exact this : YardOwn _ _ _ _ _ _ _ _ _), Lib.hid (Lib.grownBy_trans HG9.out (grown_set _ _ _ _))⟩
      case measure => simp [intOf]
    · obtain rfl : k = 0 := by omega
      go_wp2
      go_end0
      exact ⟨rfl, HY.out, HG.out⟩
end Go.Proofs.Ytcgheakadfjofaa
