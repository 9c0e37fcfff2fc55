/- The reference's cuts, and Kind. -/
import Derived.Test.YtcgheakadfjofaaP2
namespace Go.Proofs.Ytcgheakadfjofaa
open Go.RowKit Go.Shelf
set_option linter.unusedVariables false
set_option linter.unusedSimpArgs false
attribute [local go_sem] Oper.semAt_some
theorem of_and12w {A1 A2 A3 A4 A5 A6 A7 A8 A9 A10 A11 E : Prop} (h : A1 ∧ A2 ∧ A3 ∧ A4 ∧ A5 ∧ A6 ∧ A7 ∧ A8 ∧ A9 ∧ A10 ∧ A11 ∧ Hid E) : E := h.2.2.2.2.2.2.2.2.2.2.2.out
def ihB (F : Nat → Nat → Int) (m p i j : Nat) : Bool := decide (0 < F i j) && (i == p || j == p) && decide (bst F allB i 0 + F i j + bst F allB m j = bst F allB m 0)
def inT (F : Nat → Nat → Int) (m p i j : Nat) : Bool := (List.range' (i + 1) (j - i)).any (ihB F m p i)
def outT (F : Nat → Nat → Int) (m p i : Nat) : Bool := (List.range i).any fun i => inT F m p i m
theorem inT_self (F : Nat → Nat → Int) (m p i : Nat) : inT F m p i i = false := by simp [inT]
theorem inT_succ (F : Nat → Nat → Int) (m p : Nat) {i j : Nat} (h : i ≤ j) : inT F m p i (j + 1) = (inT F m p i j || ihB F m p i (j + 1)) := by
  unfold inT
  rw [show j + 1 - i = (j - i) + 1 from by omega, List.range'_concat, List.any_append]
  simp
  rw [show i + 1 + (j - i) = j + 1 from by omega]
theorem inT_step (F : Nat → Nat → Int) (m p : Nat) {i j : Nat} (h : i < j) : inT F m p i j = (inT F m p i (j - 1) || ihB F m p i j) := by
  have := inT_succ F m p (show i ≤ j - 1 by omega)
  rwa [show j - 1 + 1 = j from by omega] at this
theorem outT_succ (F : Nat → Nat → Int) (m p i : Nat) : outT F m p (i + 1) = (outT F m p i || inT F m p i m) := by simp [outT, List.range_succ]
theorem outT_cuts (F : Nat → Nat → Int) (m p : Nat) : outT F m p (m + 1) = cutsB F m p := rfl
theorem cuts_hit {F : Nat → Nat → Int} {m p i j : Nat} (h : i < j) (hj : j ≤ m) (hh : ihB F m p i j = true) : cutsB F m p = true := by
  rw [← outT_cuts]
  unfold outT
  rw [List.any_eq_true]
  refine ⟨i, List.mem_range.2 (by omega), ?_⟩
  unfold inT
  rw [List.any_eq_true]
  exact ⟨j, by rw [List.mem_range'_1]; omega, hh⟩
set_option maxRecDepth 100000 in
set_option maxHeartbeats 1000000 in
theorem cuts74 (vt vb : Value) (th bd : List Int) (r : Rl) (p : Nat) (w : World) (ht : Reads w vt th) (hd : Reads w vb bd) (hE : bothE th bd r = 0) :
    Calls Try.prog 74 #[.agg #[vt, vb], r.val, .int .i64 (p : Int)] w fun e w' => e = .returned (.bool (cutsB (sF th bd r) (th.length - 1) p)) ∧ Ext w w' := by
  obtain ⟨hl, a, cap, rfl⟩ := ht.shape
  obtain ⟨q1, q2⟩ := vs_len hE
  have hvw := (bothE_ok.1 hE).1.weak (bothE_ok.1 hE).2
  have x63 : ∀ (W : World), Ext w W → Calls Try.prog 63 #[.agg #[.slice a th.length cap, vb], r.val, .agg #[.int .i64 (-1), .int .i64 (-1)]] W (RestPost W (bst (sF th bd r) allB (th.length - 1)) (th.length - 1)) := fun W h => by
    have h2 := rest63 _ _ th bd r (-1) (-1) (th.length - 1) W (ht.ext h) (hd.ext h) hvw (by omega)
    rw [ltV_all] at h2
    exact h2
  have x85 : ∀ (i : Nat) (W : World), i ≤ th.length - 1 → Ext w W → Calls Try.prog 85 #[.agg #[.slice a th.length cap, vb], r.val, .int .i64 (i : Int)] W fun e w' => e = .returned (.int .i64 (bst (sF th bd r) allB i 0)) ∧ Ext W w' := fun i W hi h => upto85 _ _ th bd r i W (ht.ext h) (hd.ext h) hE hi
  have x45 : ∀ (i j : Nat) (W : World), Ext w W → i < j → j ≤ th.length - 1 → Calls Try.prog 45 #[.agg #[.slice a th.length cap, vb], r.val, .int .i64 (i : Int), .int .i64 (j : Int)] W fun e w' => e = .returned (.int .i64 (sF th bd r i j)) ∧ Ext W w' := fun i j W h h1 h2 =>
    refscale45 _ _ th bd r i j W (ht.ext h) (hd.ext h) hvw h1 (by omega)
  have hfb : ∀ i j, 0 ≤ sF th bd r i j ∧ sF th bd r i j ≤ 216000 := fun i j => scl_bd (bothE_ok.1 hE).1 (bothE_ok.1 hE).2 i j
  have hub : ∀ i, i ≤ th.length - 1 → 0 ≤ bst (sF th bd r) allB i 0 ∧ bst (sF th bd r) allB i 0 ≤ 13176000 := fun i hi => by
    refine ⟨bst_nonneg _ _ _ _, ?_⟩
    have := bst_bound (f := sF th bd r) (lt := allB) (n := i) (M := 216000) (by omega) (fun i j => (hfb i j).2) 0 (Nat.zero_le _)
    omega
  have hqb := bst_M (th := th) (bd := bd) (r := r) hvw (n := th.length - 1) (by omega) allB
  have hih : ∀ i j, ihB (sF th bd r) (th.length - 1) p i j = (decide (0 < sF th bd r i j) && (i == p || j == p) && decide (bst (sF th bd r) allB i 0 + sF th bd r i j + bst (sF th bd r) allB (th.length - 1) j = bst (sF th bd r) allB (th.length - 1) 0)) := fun i j => rfl
  generalize hF : sF th bd r = F at *
  generalize bst F allB (th.length - 1) = q at *
  obtain ⟨m, hm⟩ : ∃ m, th.length = m + 1 := ⟨th.length - 1, by omega⟩
  rw [show th.length - 1 = m from by omega] at x63 x85 x45 hub hih ⊢
  have C43 := Lib.hid (fun (W : World) => long43 a th.length cap vb W hl)
  obtain ⟨n, hn⟩ : ∃ n, n = th.length := ⟨_, rfl⟩
  rw [← hn] at x63 x85 x45 hl C43 hm q1 q2 ⊢
  subst hm
  have h63 := Lib.hid x63; have h85a := Lib.hid x85; have h45 := Lib.hid x45; have HFB := Lib.hid hfb; have HUB := Lib.hid hub; have HQB := Lib.hid hqb; have HIH := Lib.hid hih
  clear ht hd hE hvw hn hF hfb hub hqb hih x63 x85 x45
  have E0 := Lib.hid (Ext.alloc (Ext.alloc (Ext.refl w) (.cells #[.slice a (m + 1) cap, vb] 25)) (.cells #[.int .i64 r.lo, .int .i64 r.hi, .int .i64 r.st, .int .i64 r.tr, .int .i64 r.off, .int .i64 r.dv, .int .i64 r.tn] 27))
  have P0 := Lib.hid ((StemAt.new w (.slice a (m + 1) cap) (vb) 25).ext (Ext.alloc (Ext.refl _) (.cells #[.int .i64 r.lo, .int .i64 r.hi, .int .i64 r.st, .int .i64 r.tr, .int .i64 r.off, .int .i64 r.dv, .int .i64 r.tn] 27)))
  have R0 := RuleAt.new (w.alloc (.cells #[.slice a (m + 1) cap, vb] 25)) r 27
  rw [World.size_alloc] at R0
  have R0 := Lib.hid R0
  have ⟨g1, g2⟩ := P0.out
  have ⟨r0, r1, r2, r3, r4, r5, r6⟩ := R0.out
  go_enter Try.func74, Try.ntmps74
  go_wp2_with fail
  have HKP := Lib.hid (show ∀ X X' : World, (fun X : World => X.cell? ⟨w.heap.size, 0, none⟩ = some (.slice a (m + 1) cap) ∧ X.cell? ⟨w.heap.size, 1, none⟩ = some (vb) ∧ X.cell? ⟨w.heap.size + 1, 0, none⟩ = some (.int .i64 r.lo) ∧ X.cell? ⟨w.heap.size + 1, 1, none⟩ = some (.int .i64 r.hi) ∧ X.cell? ⟨w.heap.size + 1, 2, none⟩ = some (.int .i64 r.st) ∧ X.cell? ⟨w.heap.size + 1, 3, none⟩ = some (.int .i64 r.tr) ∧ X.cell? ⟨w.heap.size + 1, 4, none⟩ = some (.int .i64 r.off) ∧ X.cell? ⟨w.heap.size + 1, 5, none⟩ = some (.int .i64 r.dv) ∧ X.cell? ⟨w.heap.size + 1, 6, none⟩ = some (.int .i64 r.tn) ∧ Hid (Ext w X)) X → Ext X X' → (fun X : World => X.cell? ⟨w.heap.size, 0, none⟩ = some (.slice a (m + 1) cap) ∧ X.cell? ⟨w.heap.size, 1, none⟩ = some (vb) ∧ X.cell? ⟨w.heap.size + 1, 0, none⟩ = some (.int .i64 r.lo) ∧ X.cell? ⟨w.heap.size + 1, 1, none⟩ = some (.int .i64 r.hi) ∧ X.cell? ⟨w.heap.size + 1, 2, none⟩ = some (.int .i64 r.st) ∧ X.cell? ⟨w.heap.size + 1, 3, none⟩ = some (.int .i64 r.tr) ∧ X.cell? ⟨w.heap.size + 1, 4, none⟩ = some (.int .i64 r.off) ∧ X.cell? ⟨w.heap.size + 1, 5, none⟩ = some (.int .i64 r.dv) ∧ X.cell? ⟨w.heap.size + 1, 6, none⟩ = some (.int .i64 r.tn) ∧ Hid (Ext w X)) X' from fun X X' h hb => ⟨cell_ext hb h.1, cell_ext hb h.2.1, cell_ext hb h.2.2.1, cell_ext hb h.2.2.2.1, cell_ext hb h.2.2.2.2.1, cell_ext hb h.2.2.2.2.2.1, cell_ext hb h.2.2.2.2.2.2.1, cell_ext hb h.2.2.2.2.2.2.2.1, cell_ext hb h.2.2.2.2.2.2.2.2.1, Lib.hid (Ext.trans h.2.2.2.2.2.2.2.2.2.out hb)⟩)
  refine wp_region_order (fun X : World => X.cell? ⟨w.heap.size, 0, none⟩ = some (.slice a (m + 1) cap) ∧ X.cell? ⟨w.heap.size, 1, none⟩ = some (vb) ∧ X.cell? ⟨w.heap.size + 1, 0, none⟩ = some (.int .i64 r.lo) ∧ X.cell? ⟨w.heap.size + 1, 1, none⟩ = some (.int .i64 r.hi) ∧ X.cell? ⟨w.heap.size + 1, 2, none⟩ = some (.int .i64 r.st) ∧ X.cell? ⟨w.heap.size + 1, 3, none⟩ = some (.int .i64 r.tr) ∧ X.cell? ⟨w.heap.size + 1, 4, none⟩ = some (.int .i64 r.off) ∧ X.cell? ⟨w.heap.size + 1, 5, none⟩ = some (.int .i64 r.dv) ∧ X.cell? ⟨w.heap.size + 1, 6, none⟩ = some (.int .i64 r.tn) ∧ Hid (Ext w X)) [0, 1, 2, 3, 4] (by kernel_rfl) (by kernel_rfl) (by exact ⟨g1, g2, r0, r1, r2, r3, r4, r5, r6, Lib.hid E0.out.drew⟩) (fun hHeld => ?_)
  simp only [opsIn, List.filterMap_cons, List.filterMap_nil, List.getElem?_toArray, List.getElem?_cons_succ, List.getElem?_cons_zero]
  refine' text_chunk 2 (by kernel_rfl) hHeld ?ck1 ?cr1
  case ck1 =>
    intro W hSw
    have hSW := hSw
    try dsimp only at hSW
    clear hSw
    simp only [List.take_succ_cons, List.take_zero, List.drop_succ_cons, List.drop_zero]
    repeat (go_big_quiet_step (fail))
    exact wpQuiet_nil rfl
  simp only [List.take_succ_cons, List.take_zero, List.drop_succ_cons, List.drop_zero]
  refine text_call (by rfl) (by rfl) (fun K hK => ?_)
  go_simp
  (go_at_call 64; refine (all64 _).mono ?_; rintro e w6 ⟨rfl, hb⟩)
  all_goals (try (go_wp2_with fail))
  refine hK.out _ _ (by exact HKP.out _ _ hHeld hb) (fun hHeld => ?_)
  clear hK K
  try simp only [Act.put, List.setIfInBounds_toArray, List.set_cons_zero, List.set_cons_succ]
  refine text_call_more (by rfl) (by rfl) (fun K hK => ?_)
  go_simp
  (go_at_call 63; refine (h63.out _ (of_and10 hHeld)).mono ?_; rintro e w7 ⟨b, rfl, hro⟩; have hb := hro.ext0)
  all_goals (try (go_wp2_with fail))
  refine hK.out (fun X : World => Hid (RowOwn w X b (rowK q (m + 1) 0)) ∧ (fun X : World => X.cell? ⟨w.heap.size, 0, none⟩ = some (.slice a (m + 1) cap) ∧ X.cell? ⟨w.heap.size, 1, none⟩ = some (vb) ∧ X.cell? ⟨w.heap.size + 1, 0, none⟩ = some (.int .i64 r.lo) ∧ X.cell? ⟨w.heap.size + 1, 1, none⟩ = some (.int .i64 r.hi) ∧ X.cell? ⟨w.heap.size + 1, 2, none⟩ = some (.int .i64 r.st) ∧ X.cell? ⟨w.heap.size + 1, 3, none⟩ = some (.int .i64 r.tr) ∧ X.cell? ⟨w.heap.size + 1, 4, none⟩ = some (.int .i64 r.off) ∧ X.cell? ⟨w.heap.size + 1, 5, none⟩ = some (.int .i64 r.dv) ∧ X.cell? ⟨w.heap.size + 1, 6, none⟩ = some (.int .i64 r.tn) ∧ Hid (Ext w X)) X) _ _ (fun W h => h.2) (by exact ⟨Lib.hid ⟨hro.blk, Nat.le_trans (of_and10 hHeld).size hro.new, Ext.trans (of_and10 hHeld) hro.ext0⟩, HKP.out _ _ hHeld hb⟩) (fun hHeld => ?_)
  clear hK K
  try simp only [Act.put, List.setIfInBounds_toArray, List.set_cons_zero, List.set_cons_succ]
  refine' text_chunk 1 (by kernel_rfl) hHeld ?ck2 ?cr2
  case ck2 =>
    intro W hSw
    have hSW := hSw
    try dsimp only at hSW
    clear hSw
    simp only [List.take_succ_cons, List.take_zero, List.drop_succ_cons, List.drop_zero]
    repeat (go_big_quiet_step (fail))
    exact wpQuiet_nil rfl
  simp only [List.take_succ_cons, List.take_zero, List.drop_succ_cons, List.drop_zero]
  refine text_done ?_
  have HR := Lib.hid hHeld.1.out
  have HX := Lib.hid (of_and10 hHeld.2)
  have P7 := Lib.hid (show SR w7 w.heap.size (.slice a (m + 1) cap) vb r from ⟨⟨hHeld.2.1, hHeld.2.2.1⟩, hHeld.2.2.2.1, hHeld.2.2.2.2.1, hHeld.2.2.2.2.2.1, hHeld.2.2.2.2.2.2.1, hHeld.2.2.2.2.2.2.2.1, hHeld.2.2.2.2.2.2.2.2.1, hHeld.2.2.2.2.2.2.2.2.2.1⟩)
  clear hHeld
  go_wp2_with fail
  go_loopw [8] (fun s wr => ∃ i : Nat, i ≤ m + 1 ∧ s = .int .i64 (i : Int) ∧ Hid (outT F m p i = false) ∧ Hid (Ext w7 wr)) (fun s wr => m + 1 - (intV s).toNat)
  case atStart => exact ⟨0, Nat.zero_le _, rfl, Lib.hid rfl, Lib.hid (Ext.refl _)⟩
  case round =>
    obtain ⟨i, hi, rfl, hO, hX⟩ := hrel
    obtain ⟨⟨g1, g2⟩, -⟩ := P7.out.ext hX.out
    go_wp2_with fail
    refine (C43.out _).mono ?_
    rintro e w2 ⟨rfl, hb⟩
    have HX2 := Lib.hid (hX.out.trans hb)
    clear hb g1 g2
    by_cases hlt : i < m + 1
    · have hd1 : decide ((i : Int) ≤ ((m + 1 : Nat) : Int) - 1) = true := by simp; omega
      have hle1 : (i : Int) ≤ ((m + 1 : Nat) : Int) - 1 := by omega
      have him : i ≤ m := by omega
      have him2 : decide (i ≤ m) = true := by simpa using him
      go_wp2_with fail
      go_loopw [9] (fun s wr => ∃ j : Nat, i + 1 ≤ j ∧ j ≤ m + 1 ∧ s = .int .i64 (j : Int) ∧ Hid (inT F m p i (j - 1) = false) ∧ Hid (Ext w7 wr)) (fun s wr => ((m : Int) + 2 - intV s).toNat)
      case atStart => exact ⟨i + 1, Nat.le_refl _, by omega, by go_num, Lib.hid (by rw [Nat.add_sub_cancel]; exact inT_self F m p i), HX2⟩
      case round =>
        obtain ⟨j, hj1, hj2, rfl, hI, hY⟩ := hrel
        obtain ⟨⟨g1, g2⟩, -⟩ := P7.out.ext hY.out
        go_wp2_with fail
        refine (C43.out _).mono ?_
        rintro e w3 ⟨rfl, hb⟩
        have HX3 := Lib.hid (hY.out.trans hb)
        clear hb g1 g2
        by_cases hlj : j < m + 1
        · have hd2 : decide ((j : Int) ≤ ((m + 1 : Nat) : Int) - 1) = true := by simp; omega
          have hle2 : (j : Int) ≤ ((m + 1 : Nat) : Int) - 1 := by omega
          have hjm2 : j ≤ m := by omega
          have hjm3 : decide (j ≤ m) = true := by simpa using hjm2
          obtain ⟨⟨g1, g2⟩, r0, r1, r2, r3, r4, r5, r6⟩ := P7.out.ext HX3.out
          go_wp2_with fail
          refine (h45.out i j _ (HX.out.trans HX3.out) (by omega) (by omega)).mono ?_
          rintro e w4 ⟨rfl, hb⟩
          have HX4 := Lib.hid (HX3.out.trans hb)
          clear hb g1 g2 r0 r1 r2 r3 r4 r5 r6
          obtain ⟨⟨g1, g2⟩, r0, r1, r2, r3, r4, r5, r6⟩ := P7.out.ext HX4.out
          by_cases hz : F i j = 0
          · have hzb : (F i j == 0) = true := by simpa using hz
            have HN := Lib.hid (show inT F m p i (j + 1 - 1) = false by rw [Nat.add_sub_cancel, inT_step F m p (show i < j by omega), hI.out, Bool.false_or, HIH.out]; rw [hz]; simp)
            go_wp2_with fail
            go_roundw
            case rel => exact ⟨j + 1, by omega, by omega, by go_num, HN, HX4⟩
            case measure => simp [intV]; omega
          have hzb : (F i j == 0) = false := by simpa using hz
          have hf0 := (HFB.out i j).1
          by_cases hip : i = p
          · have hib : ((i : Int) != (p : Int)) = false := by simp; omega
            have hib2 : (i != p) = false := by simp [hip]
            have HPP := Lib.hid (show (i == p || j == p) = true by simp [hip])
            clear hip hib2
            have hfb := HFB.out i j
            have hub := HUB.out i (by omega)
            have hqj := HQB.out j
            have hih := HIH.out i j
            have HCUT := Lib.hid (cuts_hit (F := F) (p := p) (show i < j by omega) (show j ≤ m by omega))
            have h85 := Lib.hid (fun (W : World) (h : Ext w W) => h85a.out i W (by omega) h)
            rw [show decide (0 < F i j) = true by simp; omega, Bool.true_and] at hih
            generalize F i j = fv at *
            generalize bst F allB i 0 = u at *
            have hw1 : IntKind.i64.wrap (u + fv) = u + fv := wrapi64 _ (by omega) (by omega)
            have hw2 : IntKind.i64.wrap (u + fv + q j) = u + fv + q j := wrapi64 _ (by omega) (by omega)
            have hR4 := HR.out.ext HX4.out
            have bj := hR4.cell (k := j) (by rw [rowK_len]; omega)
            rw [rowK_get _ (Nat.zero_le _) (by omega)] at bj
            have b0 := hR4.cell (k := 0) (by rw [rowK_len]; omega)
            rw [rowK_get _ (Nat.zero_le _) (by omega)] at b0
            have HIJ := Lib.hid hih
            clear hR4 hih
            have htj : (j : Int).toNat = j := by omega
            have hja : (0 : Int) ≤ (j : Int) := by omega
            have hjb : (j : Int) < ((m + 1 : Nat) : Int) := by omega
            have HKP2 := Lib.hid (show ∀ X X' : World, (fun X : World => X.cell? ⟨w.heap.size, 0, none⟩ = some (.slice a (m + 1) cap) ∧ X.cell? ⟨w.heap.size, 1, none⟩ = some (vb) ∧ X.cell? ⟨w.heap.size + 1, 0, none⟩ = some (.int .i64 r.lo) ∧ X.cell? ⟨w.heap.size + 1, 1, none⟩ = some (.int .i64 r.hi) ∧ X.cell? ⟨w.heap.size + 1, 2, none⟩ = some (.int .i64 r.st) ∧ X.cell? ⟨w.heap.size + 1, 3, none⟩ = some (.int .i64 r.tr) ∧ X.cell? ⟨w.heap.size + 1, 4, none⟩ = some (.int .i64 r.off) ∧ X.cell? ⟨w.heap.size + 1, 5, none⟩ = some (.int .i64 r.dv) ∧ X.cell? ⟨w.heap.size + 1, 6, none⟩ = some (.int .i64 r.tn) ∧ X.cell? ⟨b, j, none⟩ = some (.int .i64 (q j)) ∧ X.cell? ⟨b, 0, none⟩ = some (.int .i64 (q 0)) ∧ Hid (Ext w4 X)) X → Ext X X' → (fun X : World => X.cell? ⟨w.heap.size, 0, none⟩ = some (.slice a (m + 1) cap) ∧ X.cell? ⟨w.heap.size, 1, none⟩ = some (vb) ∧ X.cell? ⟨w.heap.size + 1, 0, none⟩ = some (.int .i64 r.lo) ∧ X.cell? ⟨w.heap.size + 1, 1, none⟩ = some (.int .i64 r.hi) ∧ X.cell? ⟨w.heap.size + 1, 2, none⟩ = some (.int .i64 r.st) ∧ X.cell? ⟨w.heap.size + 1, 3, none⟩ = some (.int .i64 r.tr) ∧ X.cell? ⟨w.heap.size + 1, 4, none⟩ = some (.int .i64 r.off) ∧ X.cell? ⟨w.heap.size + 1, 5, none⟩ = some (.int .i64 r.dv) ∧ X.cell? ⟨w.heap.size + 1, 6, none⟩ = some (.int .i64 r.tn) ∧ X.cell? ⟨b, j, none⟩ = some (.int .i64 (q j)) ∧ X.cell? ⟨b, 0, none⟩ = some (.int .i64 (q 0)) ∧ Hid (Ext w4 X)) X' from fun X X' h hb => ⟨cell_ext hb h.1, cell_ext hb h.2.1, cell_ext hb h.2.2.1, cell_ext hb h.2.2.2.1, cell_ext hb h.2.2.2.2.1, cell_ext hb h.2.2.2.2.2.1, cell_ext hb h.2.2.2.2.2.2.1, cell_ext hb h.2.2.2.2.2.2.2.1, cell_ext hb h.2.2.2.2.2.2.2.2.1, cell_ext hb h.2.2.2.2.2.2.2.2.2.1, cell_ext hb h.2.2.2.2.2.2.2.2.2.2.1, Lib.hid (Ext.trans h.2.2.2.2.2.2.2.2.2.2.2.out hb)⟩)
            go_wp2_with fail
            refine wp_region_order (fun X : World => X.cell? ⟨w.heap.size, 0, none⟩ = some (.slice a (m + 1) cap) ∧ X.cell? ⟨w.heap.size, 1, none⟩ = some (vb) ∧ X.cell? ⟨w.heap.size + 1, 0, none⟩ = some (.int .i64 r.lo) ∧ X.cell? ⟨w.heap.size + 1, 1, none⟩ = some (.int .i64 r.hi) ∧ X.cell? ⟨w.heap.size + 1, 2, none⟩ = some (.int .i64 r.st) ∧ X.cell? ⟨w.heap.size + 1, 3, none⟩ = some (.int .i64 r.tr) ∧ X.cell? ⟨w.heap.size + 1, 4, none⟩ = some (.int .i64 r.off) ∧ X.cell? ⟨w.heap.size + 1, 5, none⟩ = some (.int .i64 r.dv) ∧ X.cell? ⟨w.heap.size + 1, 6, none⟩ = some (.int .i64 r.tn) ∧ X.cell? ⟨b, j, none⟩ = some (.int .i64 (q j)) ∧ X.cell? ⟨b, 0, none⟩ = some (.int .i64 (q 0)) ∧ Hid (Ext w4 X)) [0, 1, 2, 4, 6, 7, 8, 9, 11, 12, 13, 3, 5, 10, 14] (by kernel_rfl) (by kernel_rfl) (by exact ⟨g1, g2, r0, r1, r2, r3, r4, r5, r6, bj, b0, Lib.hid (Ext.drew (Ext.refl _))⟩) (fun hHeld => ?_)
            simp only [opsIn, List.filterMap_cons, List.filterMap_nil, List.getElem?_toArray, List.getElem?_cons_succ, List.getElem?_cons_zero]
            refine' text_chunk 11 (by kernel_rfl) hHeld ?ck3 ?cr3
            case ck3 =>
              intro W hSw
              have hSW := hSw
              try dsimp only at hSW
              clear hSw
              simp only [List.take_succ_cons, List.take_zero, List.drop_succ_cons, List.drop_zero]
              repeat (go_big_quiet_step (fail))
              exact wpQuiet_nil rfl
            simp only [List.take_succ_cons, List.take_zero, List.drop_succ_cons, List.drop_zero]
            refine text_call (by rfl) (by rfl) (fun K hK => ?_)
            go_simp
            (go_at_call 85; refine (h85.out _ (HX.out.trans (HX4.out.trans (of_and12w hHeld)))).mono ?_; rintro e w5 ⟨rfl, hb⟩)
            all_goals (try (go_wp2_with fail))
            refine hK.out _ _ (by exact HKP2.out _ _ hHeld hb) (fun hHeld => ?_)
            clear hK K
            try simp only [Act.put, List.setIfInBounds_toArray, List.set_cons_zero, List.set_cons_succ]
            refine' text_chunk 3 (by kernel_rfl) hHeld ?ck4 ?cr4
            case ck4 =>
              intro W hSw
              have hSW := hSw
              try dsimp only at hSW
              clear hSw
              simp only [List.take_succ_cons, List.take_zero, List.drop_succ_cons, List.drop_zero]
              repeat (go_big_quiet_step (fail))
              exact wpQuiet_nil rfl
            simp only [List.take_succ_cons, List.take_zero, List.drop_succ_cons, List.drop_zero]
            refine text_done ?_
            have HX5 := Lib.hid (HX4.out.trans (of_and12w hHeld))
            clear hHeld g1 g2 r0 r1 r2 r3 r4 r5 r6 bj b0
            by_cases heq : u + fv + q j = q 0
            · have heqb : (u + fv + q j == q 0) = true := by simpa using heq
              have HT := Lib.hid (HCUT.out (by rw [HIJ.out, HPP.out, decide_eq_true heq]; rfl))
              clear heq
              go_wp2_with fail
              go_ret
              exact ⟨by rw [HT.out]; rfl, HX.out.trans HX5.out⟩
            · have heqb : (u + fv + q j == q 0) = false := by simpa using heq
              have HN := Lib.hid (show inT F m p i (j + 1 - 1) = false by rw [Nat.add_sub_cancel, inT_step F m p (show i < j by omega), hI.out, Bool.false_or, HIJ.out, decide_eq_false heq, Bool.and_false])
              clear heq
              go_wp2_with fail
              go_roundw
              case rel => exact ⟨j + 1, by omega, by omega, by go_num, HN, HX5⟩
              case measure => simp [intV]; omega
          have hib : ((i : Int) != (p : Int)) = true := by simp; omega
          by_cases hjp : j = p
          · have hkb : ((j : Int) != (p : Int)) = false := by simp; omega
            have HPP := Lib.hid (show (i == p || j == p) = true by simp [hjp])
            clear hjp
            have hfb := HFB.out i j
            have hub := HUB.out i (by omega)
            have hqj := HQB.out j
            have hih := HIH.out i j
            have HCUT := Lib.hid (cuts_hit (F := F) (p := p) (show i < j by omega) (show j ≤ m by omega))
            have h85 := Lib.hid (fun (W : World) (h : Ext w W) => h85a.out i W (by omega) h)
            rw [show decide (0 < F i j) = true by simp; omega, Bool.true_and] at hih
            generalize F i j = fv at *
            generalize bst F allB i 0 = u at *
            have hw1 : IntKind.i64.wrap (u + fv) = u + fv := wrapi64 _ (by omega) (by omega)
            have hw2 : IntKind.i64.wrap (u + fv + q j) = u + fv + q j := wrapi64 _ (by omega) (by omega)
            have hR4 := HR.out.ext HX4.out
            have bj := hR4.cell (k := j) (by rw [rowK_len]; omega)
            rw [rowK_get _ (Nat.zero_le _) (by omega)] at bj
            have b0 := hR4.cell (k := 0) (by rw [rowK_len]; omega)
            rw [rowK_get _ (Nat.zero_le _) (by omega)] at b0
            have HIJ := Lib.hid hih
            clear hR4 hih
            have htj : (j : Int).toNat = j := by omega
            have hja : (0 : Int) ≤ (j : Int) := by omega
            have hjb : (j : Int) < ((m + 1 : Nat) : Int) := by omega
            have HKP2 := Lib.hid (show ∀ X X' : World, (fun X : World => X.cell? ⟨w.heap.size, 0, none⟩ = some (.slice a (m + 1) cap) ∧ X.cell? ⟨w.heap.size, 1, none⟩ = some (vb) ∧ X.cell? ⟨w.heap.size + 1, 0, none⟩ = some (.int .i64 r.lo) ∧ X.cell? ⟨w.heap.size + 1, 1, none⟩ = some (.int .i64 r.hi) ∧ X.cell? ⟨w.heap.size + 1, 2, none⟩ = some (.int .i64 r.st) ∧ X.cell? ⟨w.heap.size + 1, 3, none⟩ = some (.int .i64 r.tr) ∧ X.cell? ⟨w.heap.size + 1, 4, none⟩ = some (.int .i64 r.off) ∧ X.cell? ⟨w.heap.size + 1, 5, none⟩ = some (.int .i64 r.dv) ∧ X.cell? ⟨w.heap.size + 1, 6, none⟩ = some (.int .i64 r.tn) ∧ X.cell? ⟨b, j, none⟩ = some (.int .i64 (q j)) ∧ X.cell? ⟨b, 0, none⟩ = some (.int .i64 (q 0)) ∧ Hid (Ext w4 X)) X → Ext X X' → (fun X : World => X.cell? ⟨w.heap.size, 0, none⟩ = some (.slice a (m + 1) cap) ∧ X.cell? ⟨w.heap.size, 1, none⟩ = some (vb) ∧ X.cell? ⟨w.heap.size + 1, 0, none⟩ = some (.int .i64 r.lo) ∧ X.cell? ⟨w.heap.size + 1, 1, none⟩ = some (.int .i64 r.hi) ∧ X.cell? ⟨w.heap.size + 1, 2, none⟩ = some (.int .i64 r.st) ∧ X.cell? ⟨w.heap.size + 1, 3, none⟩ = some (.int .i64 r.tr) ∧ X.cell? ⟨w.heap.size + 1, 4, none⟩ = some (.int .i64 r.off) ∧ X.cell? ⟨w.heap.size + 1, 5, none⟩ = some (.int .i64 r.dv) ∧ X.cell? ⟨w.heap.size + 1, 6, none⟩ = some (.int .i64 r.tn) ∧ X.cell? ⟨b, j, none⟩ = some (.int .i64 (q j)) ∧ X.cell? ⟨b, 0, none⟩ = some (.int .i64 (q 0)) ∧ Hid (Ext w4 X)) X' from fun X X' h hb => ⟨cell_ext hb h.1, cell_ext hb h.2.1, cell_ext hb h.2.2.1, cell_ext hb h.2.2.2.1, cell_ext hb h.2.2.2.2.1, cell_ext hb h.2.2.2.2.2.1, cell_ext hb h.2.2.2.2.2.2.1, cell_ext hb h.2.2.2.2.2.2.2.1, cell_ext hb h.2.2.2.2.2.2.2.2.1, cell_ext hb h.2.2.2.2.2.2.2.2.2.1, cell_ext hb h.2.2.2.2.2.2.2.2.2.2.1, Lib.hid (Ext.trans h.2.2.2.2.2.2.2.2.2.2.2.out hb)⟩)
            go_wp2_with fail
            refine wp_region_order (fun X : World => X.cell? ⟨w.heap.size, 0, none⟩ = some (.slice a (m + 1) cap) ∧ X.cell? ⟨w.heap.size, 1, none⟩ = some (vb) ∧ X.cell? ⟨w.heap.size + 1, 0, none⟩ = some (.int .i64 r.lo) ∧ X.cell? ⟨w.heap.size + 1, 1, none⟩ = some (.int .i64 r.hi) ∧ X.cell? ⟨w.heap.size + 1, 2, none⟩ = some (.int .i64 r.st) ∧ X.cell? ⟨w.heap.size + 1, 3, none⟩ = some (.int .i64 r.tr) ∧ X.cell? ⟨w.heap.size + 1, 4, none⟩ = some (.int .i64 r.off) ∧ X.cell? ⟨w.heap.size + 1, 5, none⟩ = some (.int .i64 r.dv) ∧ X.cell? ⟨w.heap.size + 1, 6, none⟩ = some (.int .i64 r.tn) ∧ X.cell? ⟨b, j, none⟩ = some (.int .i64 (q j)) ∧ X.cell? ⟨b, 0, none⟩ = some (.int .i64 (q 0)) ∧ Hid (Ext w4 X)) [0, 1, 2, 4, 6, 7, 8, 9, 11, 12, 13, 3, 5, 10, 14] (by kernel_rfl) (by kernel_rfl) (by exact ⟨g1, g2, r0, r1, r2, r3, r4, r5, r6, bj, b0, Lib.hid (Ext.drew (Ext.refl _))⟩) (fun hHeld => ?_)
            simp only [opsIn, List.filterMap_cons, List.filterMap_nil, List.getElem?_toArray, List.getElem?_cons_succ, List.getElem?_cons_zero]
            refine' text_chunk 11 (by kernel_rfl) hHeld ?ck5 ?cr5
            case ck5 =>
              intro W hSw
              have hSW := hSw
              try dsimp only at hSW
              clear hSw
              simp only [List.take_succ_cons, List.take_zero, List.drop_succ_cons, List.drop_zero]
              repeat (go_big_quiet_step (fail))
              exact wpQuiet_nil rfl
            simp only [List.take_succ_cons, List.take_zero, List.drop_succ_cons, List.drop_zero]
            refine text_call (by rfl) (by rfl) (fun K hK => ?_)
            go_simp
            (go_at_call 85; refine (h85.out _ (HX.out.trans (HX4.out.trans (of_and12w hHeld)))).mono ?_; rintro e w5 ⟨rfl, hb⟩)
            all_goals (try (go_wp2_with fail))
            refine hK.out _ _ (by exact HKP2.out _ _ hHeld hb) (fun hHeld => ?_)
            clear hK K
            try simp only [Act.put, List.setIfInBounds_toArray, List.set_cons_zero, List.set_cons_succ]
            refine' text_chunk 3 (by kernel_rfl) hHeld ?ck6 ?cr6
            case ck6 =>
              intro W hSw
              have hSW := hSw
              try dsimp only at hSW
              clear hSw
              simp only [List.take_succ_cons, List.take_zero, List.drop_succ_cons, List.drop_zero]
              repeat (go_big_quiet_step (fail))
              exact wpQuiet_nil rfl
            simp only [List.take_succ_cons, List.take_zero, List.drop_succ_cons, List.drop_zero]
            refine text_done ?_
            have HX5 := Lib.hid (HX4.out.trans (of_and12w hHeld))
            clear hHeld g1 g2 r0 r1 r2 r3 r4 r5 r6 bj b0
            by_cases heq : u + fv + q j = q 0
            · have heqb : (u + fv + q j == q 0) = true := by simpa using heq
              have HT := Lib.hid (HCUT.out (by rw [HIJ.out, HPP.out, decide_eq_true heq]; rfl))
              clear heq
              go_wp2_with fail
              go_ret
              exact ⟨by rw [HT.out]; rfl, HX.out.trans HX5.out⟩
            · have heqb : (u + fv + q j == q 0) = false := by simpa using heq
              have HN := Lib.hid (show inT F m p i (j + 1 - 1) = false by rw [Nat.add_sub_cancel, inT_step F m p (show i < j by omega), hI.out, Bool.false_or, HIJ.out, decide_eq_false heq, Bool.and_false])
              clear heq
              go_wp2_with fail
              go_roundw
              case rel => exact ⟨j + 1, by omega, by omega, by go_num, HN, HX5⟩
              case measure => simp [intV]; omega
          have hkb : ((j : Int) != (p : Int)) = true := by simp; omega
          have HN := Lib.hid (show inT F m p i (j + 1 - 1) = false by rw [Nat.add_sub_cancel, inT_step F m p (show i < j by omega), hI.out, Bool.false_or, HIH.out]; rw [show (i == p) = false by simpa using hip, show (j == p) = false by simpa using hjp]; simp)
          go_wp2_with fail
          go_roundw
          case rel => exact ⟨j + 1, by omega, by omega, by go_num, HN, HX4⟩
          case measure => simp [intV]; omega
        · have hd2 : decide ((j : Int) ≤ ((m + 1 : Nat) : Int) - 1) = false := by simp; omega
          have hle2 : ¬ (j : Int) ≤ ((m + 1 : Nat) : Int) - 1 := by omega
          have hjm2 : ¬ j ≤ m := by omega
          have hjm : j = m + 1 := by omega
          have HN := Lib.hid (show outT F m p (i + 1) = false by
            have hI2 := hI.out
            rw [hjm, Nat.add_sub_cancel] at hI2
            rw [outT_succ, hO.out, Bool.false_or, hI2])
          clear hjm
          go_wp2_with fail
          go_roundw
          case rel => exact ⟨i + 1, by omega, by go_num, HN, HX3⟩
          case measure => simp [intV]; omega
    · have hd1 : decide ((i : Int) ≤ ((m + 1 : Nat) : Int) - 1) = false := by simp; omega
      have hle1 : ¬ (i : Int) ≤ ((m + 1 : Nat) : Int) - 1 := by omega
      have him : ¬ i ≤ m := by omega
      have hie : i = m + 1 := by omega
      have HN := Lib.hid (show cutsB F m p = false by rw [← outT_cuts, ← hie]; exact hO.out)
      clear hie
      go_wp2_with fail
      go_ret
      exact ⟨by rw [HN.out]; rfl, HX.out.trans HX2.out⟩
end Go.Proofs.Ytcgheakadfjofaa
