/- BoomTogether, by its contract. -/
import Derived.Test.YtppjnpempgpkaaaS6
import Derived.Test.YtppjnpempgpkaaaFI
import Derived.Test.YtppjnpempgpkaaaTG
import Derived.Test.YtppjnpempgpkaaaRA
import Derived.Test.YtppjnpempgpkaaaH7
import Derived.Test.YtppjnpempgpkaaaH6
import Derived.Test.YtppjnpempgpkaaaN3
import Derived.Test.YtppjnpempgpkaaaK1
namespace Go.Proofs.Ytppjnpempgpkaaa
open Go.RowKit Go.Shelf
set_option linter.unusedVariables false
set_option linter.unusedSimpArgs false
attribute [local go_sem] Oper.semAt_some
theorem wrapu64 (a : Int) (h0 : 0 ≤ a) (h1 : a < 18446744073709551616) : IntKind.u64.wrap a = a := by
  simp [IntKind.wrap, IntKind.bits, IntKind.signed]
  omega
theorem and_u64 (a b : Nat) (ha : a < 18446744073709551616) (hb : b < 18446744073709551616) : bits .and .u64 (a : Int) (b : Int) = ((a &&& b : Nat) : Int) := by
  show IntKind.u64.wrap ((BitVec.ofInt 64 (a : Int) &&& BitVec.ofInt 64 (b : Int)).toNat : Int) = _
  have h1 : (BitVec.ofInt 64 (a : Int)).toNat = a := by rw [BitVec.toNat_ofInt]; omega
  have h2 : (BitVec.ofInt 64 (b : Int)).toNat = b := by rw [BitVec.toNat_ofInt]; omega
  rw [BitVec.toNat_and, h1, h2]
  have h3 : a &&& b ≤ a := Nat.and_le_left
  exact wrapu64 _ (by omega) (by omega)
theorem or_u64 (a b : Nat) (ha : a < 18446744073709551616) (hb : b < 18446744073709551616) : bits .or .u64 (a : Int) (b : Int) = ((a ||| b : Nat) : Int) := by
  show IntKind.u64.wrap ((BitVec.ofInt 64 (a : Int) ||| BitVec.ofInt 64 (b : Int)).toNat : Int) = _
  have h1 : (BitVec.ofInt 64 (a : Int)).toNat = a := by rw [BitVec.toNat_ofInt]; omega
  have h2 : (BitVec.ofInt 64 (b : Int)).toNat = b := by rw [BitVec.toNat_ofInt]; omega
  rw [BitVec.toNat_or, h1, h2]
  have h3 : a ||| b < 2 ^ 64 := Nat.or_lt_two_pow (by simpa using ha) (by simpa using hb)
  have h4 : (2 : Nat) ^ 64 = 18446744073709551616 := by decide
  exact wrapu64 _ (by omega) (by omega)
theorem stk_few {W H : Nat} {wn kn : List Nat} (hv : VP W H wn kn) (u : Nat → Bool) : stk (gp hv) u ≤ 256 := by
  have h : ∀ n : Nat, (allS n).length = 4 * n := fun n => by
    induction n with
    | zero => rfl
    | succ n ih => unfold allS at ih ⊢; rw [List.range_succ, List.flatMap_append, List.length_append, ih]; simp [sidesOf]; omega
  have h1 : stk (gp hv) u ≤ (allS (W * H)).length := List.countP_le_length
  have := hv.n64
  rw [h] at h1
  omega
/-- Water of a pond, and its sticks. -/
theorem water_r (W H nw cw nk ck : Nat) (aw ak : Option Addr) (wn kn : List Nat) (hv : VP W H wn kn) (b : Nat) (hb : b < 18446744073709551616) (w : World) (hw : Reads w (.slice aw nw cw) (natI wn)) (hk : Reads w (.slice ak nk ck) (natI kn)) :
    Calls Try.prog 36 #[.agg #[.int .i64 (W : Int), .int .i64 (H : Int), .slice aw nw cw, .slice ak nk ck], .int .u64 (b : Int)] w fun e w' => ∃ a n c, e = .returned (.slice a n c) ∧ Reads w' (.slice a n c) (natI (watN W H wn kn b (W * H))) ∧ Ext w w' := by
  refine (waterB_c W H nw cw nk ck aw ak wn kn hv b hb w hw hk).mono fun e w' ⟨u, h1, h2, h3⟩ => ?_
  have hr := h2.reads (by rw [natI_len]; have := (wat_lst W H wn kn b).len; have := hv.n64; omega)
  obtain ⟨_, a, c, rfl⟩ := hr.shape
  exact ⟨a, _, c, h1, hr, h3⟩
theorem sticks_w (W H nw cw nk ck : Nat) (aw ak : Option Addr) (wn kn : List Nat) (hv : VP W H wn kn) (b : Nat) (v : Value) (w : World) (hw : Reads w (.slice aw nw cw) (natI wn)) (hk : Reads w (.slice ak nk ck) (natI kn)) (hx : Reads w v (natI (watN W H wn kn b (W * H)))) :
    Calls Try.prog 14 #[.agg #[.int .i64 (W : Int), .int .i64 (H : Int), .slice aw nw cw, .slice ak nk ck], v] w fun e w' => e = .returned (.tuple #[.int .i64 (stk (gp hv) (memL (watN W H wn kn b (W * H))) : Int), .int .i64 0]) ∧ Ext w w' := by
  have h := sticks_ok W H nw cw nk ck aw ak wn kn hv v w hw hk _ (wat_lst W H wn kn b) hx
  rw [if_pos (wat_enc hv b), if_pos (wat_enc hv b)] at h
  exact h
set_option maxRecDepth 100000 in
set_option maxHeartbeats 4000000 in
theorem together_c (W H : Int) (aw ak : Option Addr) (cw ck : Nat) (wl kl : List Int) (want one two : Nat) (hwant : want < 18446744073709551616) (hone : one < 18446744073709551616) (htwo : two < 18446744073709551616) (w : World) (hw : wl.length ≤ 5000 → Reads w (.slice aw wl.length cw) wl) (hk : kl.length ≤ 5000 → Reads w (.slice ak kl.length ck) kl) :
    Calls Try.prog 7 #[.agg #[.int .i64 W, .int .i64 H, .slice aw wl.length cw, .slice ak kl.length ck], .int .u64 (want : Int), .int .u64 (one : Int), .int .u64 (two : Int)] w fun e w' => e = .returned (.bool true) ∧ Ext w w' := by
  obtain ⟨b, hb⟩ : ∃ b, b = fineB W H wl kl := ⟨_, rfl⟩
  have HF := Lib.hid (fun (X : World) (h : Ext w X) => fine_c W H aw ak cw ck wl kl X (fun h5 => (hw h5).ext h) (fun h5 => (hk h5).ext h))
  rw [← hb] at HF
  obtain ⟨nw, hnw⟩ : ∃ n, n = wl.length := ⟨_, rfl⟩
  obtain ⟨nk, hnk⟩ : ∃ n, n = kl.length := ⟨_, rfl⟩
  rw [← hnw] at HF hw ⊢
  rw [← hnk] at HF hk ⊢
  obtain ⟨w1, hw1⟩ : ∃ w1, w1 = w.alloc (.cells #[.int .i64 W, .int .i64 H, .slice aw nw cw, .slice ak nk ck] 24) := ⟨_, rfl⟩
  have HE := Lib.hid (show Ext w w1 from by rw [hw1]; exact (Ext.refl w).alloc _)
  have B0 := Lib.hid (show w1.heap[w.heap.size]? = some (.cells #[.int .i64 W, .int .i64 H, .slice aw nw cw, .slice ak nk ck] 24 (0, 0)) from by rw [hw1]; exact heap_alloc_new w _)
  have HB := Lib.hid hb; have HNW := Lib.hid hnw; have HNK := Lib.hid hnk; have HHW := Lib.hid hw; have HHK := Lib.hid hk
  have HWT := Lib.hid hwant; have HON := Lib.hid hone; have HTO := Lib.hid htwo
  clear hb hnw hnk hw hk hwant hone htwo
  obtain ⟨z0, z1, z2, z3⟩ := cells4 B0.out
  go_enter Try.func7, Try.ntmps7
  go_upto_region 1 with fail
  rw [← hw1]
  clear hw1
  go_wp2_with fail
  refine (HF.out _ HE.out).mono ?_
  rintro e w2 ⟨rfl, h2⟩
  have HE := Lib.hid (HE.out.trans h2); have B0 := Lib.hid (block_ext h2 B0.out)
  clear h2 z0 z1 z2 z3
  cases b
  · skip
    go_wp2_with fail
    refine (works_c _).mono ?_
    rintro e wz ⟨rfl, hz⟩
    go_wp2
    go_ret
    exact ⟨rfl, HE.out.trans hz⟩
  · have hfb := HB.out.symm
    unfold fineB at hfb
    rw [Bool.and_eq_true, Bool.not_eq_true', Bool.or_eq_false_iff, decide_eq_false_iff_not, decide_eq_false_iff_not, decide_eq_true_iff] at hfb
    obtain ⟨⟨h7w, h7k⟩, h0⟩ := hfb
    obtain ⟨W, H, wn, kn, ⟨rfl, rfl⟩, ⟨rfl, rfl⟩, hv⟩ := chkP_ok.1 h0
    clear h0
    have hnw := HNW.out; have hnk := HNK.out
    have HRW := Lib.hid (HHW.out (by omega)); have HRK := Lib.hid (HHK.out (by omega))
    rw [natI_len] at hnw hnk h7w h7k
    have HV := Lib.hid hv
    have h64 := hv.n64
    have HCE := Lib.hid (fun (X : World) => rcells_c W H nw cw nk ck aw ak hv.w8 hv.h8 X)
    obtain ⟨m, hm⟩ : ∃ m, m = W * H := ⟨_, rfl⟩
    have HM := Lib.hid hm
    rw [← hm] at HCE h64
    clear HF HB HNW HNK HHW HHK hv hnw hnk h7w h7k hm
    obtain ⟨z0, z1, z2, z3⟩ := cells4 B0.out
    go_wp2_with fail
    refine (pond_c (W : Int) (H : Int) 0 0 nk ck none ak _).mono ?_
    rintro e w3 ⟨rfl, h2⟩
    have HE := Lib.hid (HE.out.trans h2); have B0 := Lib.hid (block_ext h2 B0.out)
    clear h2 z0 z1 z2 z3
    go_upto_region 4 with fail
    obtain ⟨w4, hw4⟩ : ∃ Y, Y = w3.alloc (.cells #[.int .i64 (W : Int), .int .i64 (H : Int), .slice none 0 0, .slice ak nk ck] 24) := ⟨_, rfl⟩
    rw [← hw4]
    have B1 := Lib.hid (show w4.heap[w3.heap.size]? = some (.cells #[.int .i64 (W : Int), .int .i64 (H : Int), .slice none 0 0, .slice ak nk ck] 24 (0, 0)) from by rw [hw4]; exact heap_alloc_new _ _)
    obtain ⟨g1, hg1⟩ : ∃ g, g = w3.heap.size := ⟨_, rfl⟩
    rw [← hg1] at B1 ⊢
    have HG1 := Lib.hid (show w.heap.size < g1 from by rw [hg1]; exact lt_of_blk B0.out)
    have HE := Lib.hid (show Ext w w4 from by rw [hw4]; exact HE.out.alloc _)
    have B0 := Lib.hid (show w4.heap[w.heap.size]? = some (.cells #[.int .i64 (W : Int), .int .i64 (H : Int), .slice aw nw cw, .slice ak nk ck] 24 (0, 0)) from by rw [hw4]; exact block_ext ((Ext.refl _).alloc _) B0.out)
    clear hw4 hg1
    obtain ⟨z0, z1, z2, z3⟩ := cells4 B0.out
    go_wp2_with fail
    refine (pond_c (W : Int) (H : Int) 0 0 nk ck none ak _).mono ?_
    rintro e w5 ⟨rfl, h2⟩
    have HE := Lib.hid (HE.out.trans h2); have B0 := Lib.hid (block_ext h2 B0.out); have B1 := Lib.hid (block_ext h2 B1.out)
    clear h2 z0 z1 z2 z3
    go_upto_region 5 with fail
    obtain ⟨w6, hw6⟩ : ∃ Y, Y = w5.alloc (.cells #[.int .i64 (W : Int), .int .i64 (H : Int), .slice none 0 0, .slice ak nk ck] 24) := ⟨_, rfl⟩
    rw [← hw6]
    have B2 := Lib.hid (show w6.heap[w5.heap.size]? = some (.cells #[.int .i64 (W : Int), .int .i64 (H : Int), .slice none 0 0, .slice ak nk ck] 24 (0, 0)) from by rw [hw6]; exact heap_alloc_new _ _)
    obtain ⟨g2, hg2⟩ : ∃ g, g = w5.heap.size := ⟨_, rfl⟩
    rw [← hg2] at B2 ⊢
    have HG2 := Lib.hid (show g1 < g2 from by rw [hg2]; exact lt_of_blk B1.out)
    have hE6 : Ext w5 w6 := by rw [hw6]; exact (Ext.refl _).alloc _
    have HT : Hid (∃ u v, TwoL w w6 g1 g2 (.int .i64 (W : Int)) (.int .i64 (H : Int)) #[.int .i64 (W : Int), .int .i64 (H : Int), .slice aw nw cw, .slice ak nk ck] (.slice ak nk ck) u v (natI (tqN kn want 0)) (natI (tbN wn kn want 0))) := Lib.hid ⟨_, _, block_ext hE6 B1.out, B2.out, OwnI.nil _ _ _, OwnI.nil _ _ _, (fun g h => by cases h), block_ext hE6 B0.out, HE.out.trans hE6, HG1.out, HG2.out⟩
    clear hw6 hg2 hE6 HE B0 B1 B2
    go_wp2
    go_loopw [11] (fun i wr => ∃ k : Nat, k ≤ m ∧ i = .int .i64 (k : Int) ∧ Hid (∃ u v, TwoL w wr g1 g2 (.int .i64 (W : Int)) (.int .i64 (H : Int)) #[.int .i64 (W : Int), .int .i64 (H : Int), .slice aw nw cw, .slice ak nk ck] (.slice ak nk ck) u v (natI (tqN kn want k)) (natI (tbN wn kn want k)))) (fun i wr => m - (intOf i).toNat)
    case atStart => exact ⟨0, Nat.zero_le _, rfl, HT⟩
    case round =>
      clear HT
      obtain ⟨k, hk, rfl, HUV⟩ := hrel
      obtain ⟨u, v, ht⟩ := HUV.out
      have HT := Lib.hid ht
      clear HUV ht
      have hqb := HT.out; obtain ⟨x1, x2, -, -, -, x3, -⟩ := hqb
      obtain ⟨p0, p1, p2, p3⟩ := cells4 x1; obtain ⟨r0, r1, r2, r3⟩ := cells4 x2; obtain ⟨z0, z1, z2, z3⟩ := cells4 x3
      clear x1 x2 x3
      go_wp2_with fail
      refine (HCE.out _).mono ?_
      rintro e Y1 ⟨rfl, h2⟩
      have HT := Lib.hid (HT.out.ext h2)
      clear h2
      clear p0 p1 p2 p3 r0 r1 r2 r3 z0 z1 z2 z3
      by_cases hlt : k < m
      · have HLT := Lib.hid hlt
        have HQ1 := Lib.hid (has_c _ (natI kn) (k : Int) Y1 (HRK.out.ext HT.out.2.2.2.2.2.2.1))
        have HQ2 := Lib.hid (has_c _ (natI wn) (k : Int) Y1 (HRW.out.ext HT.out.2.2.2.2.2.2.1))
        rw [hasB_nat] at HQ1 HQ2
        have hsq := congrArg natI (tqN_succ kn want k)
        have hsb := congrArg natI (tbN_succ wn kn want k)
        rw [show memL kn k = decide (k ∈ kn) from rfl] at hsq hsb
        rw [show memL wn k = decide (k ∈ wn) from rfl] at hsb
        generalize decide (k ∈ kn) = q1 at *
        generalize decide (k ∈ wn) = q2 at *
        have hka : (0 : Int) ≤ (k : Int) := by omega
        have hkb : (k : Int) < (m : Int) := by omega
        have hkt : (k : Int).toNat = k := by omega
        obtain ⟨s, hs⟩ : ∃ s, s = want / 2 ^ k := ⟨_, rfl⟩
        have hsi : (want : Int) / 2 ^ k = (s : Int) := by rw [hs]; simp
        have hs64 : s < 18446744073709551616 := by rw [hs]; exact Nat.lt_of_le_of_lt (Nat.div_le_self _ _) HWT.out
        have hand := and1_u64 s hs64
        have hbt : want.testBit k = decide (s % 2 = 1) := by rw [Nat.testBit_eq_decide_div_mod_eq, hs]
        rw [hbt] at hsq hsb
        have hr2 : s % 2 < 2 := Nat.mod_lt _ (by decide)
        generalize s % 2 = r at *
        clear hs hbt hs64
        have hr3 : r = 0 ∨ r = 1 := by omega
        rcases hr3 with rfl | rfl
        · cases q2
          · have HSQ := Lib.hid (show natI (tqN kn want (k + 1)) = natI (tqN kn want k) from by rw [hsq]; cases q1 <;> simp)
            have HSB := Lib.hid (show natI (tbN wn kn want (k + 1)) = natI (tbN wn kn want k) from by rw [hsb]; cases q1 <;> simp)
            clear hsq hsb
            have hqb := HT.out; obtain ⟨x1, x2, -, -, -, x3, -⟩ := hqb
            obtain ⟨p0, p1, p2, p3⟩ := cells4 x1; obtain ⟨r0, r1, r2, r3⟩ := cells4 x2; obtain ⟨z0, z1, z2, z3⟩ := cells4 x3
            clear x1 x2 x3
            go_upto_region 9 with fail
            go_wp2_with (first | (go_at_call 35; refine Calls.mono HQ2.out ?_; intro e Y h1; obtain ⟨h1, hY⟩ := h1; subst h1; subst hY) | fail)
            clear p0 p1 p2 p3 r0 r1 r2 r3 z0 z1 z2 z3
            go_wp2
            go_roundw
            case rel => exact ⟨k + 1, by have := HLT.out; omega, by go_num, Lib.hid ⟨_, _, by rw [HSQ.out, HSB.out]; exact HT.out⟩⟩
            case measure => have := HLT.out; simp [intOf]; omega
          · have HSQ := Lib.hid (show natI (tqN kn want (k + 1)) = natI (tqN kn want k) from by rw [hsq]; cases q1 <;> simp)
            have HSB := Lib.hid (show natI (tbN wn kn want (k + 1)) = natI (tbN wn kn want k) ++ [(k : Int)] from by rw [hsb]; cases q1 <;> (unfold natI; simp))
            clear hsq hsb
            have hqb := HT.out; obtain ⟨x1, x2, -, -, -, x3, -⟩ := hqb
            obtain ⟨p0, p1, p2, p3⟩ := cells4 x1; obtain ⟨r0, r1, r2, r3⟩ := cells4 x2; obtain ⟨z0, z1, z2, z3⟩ := cells4 x3
            clear x1 x2 x3
            obtain ⟨a6, n6, c6, X6, hrun, hb6, ht6⟩ := TwoL.grow2 HT.out (by rw [natI_len]; have := filter_len k (fun i => (want.testBit i && !memL kn i) || memL wn i); unfold tbN; omega) (k : Int)
            have HT := Lib.hid ht6
            have y2 := cell_of_blk (o := 2) hb6 rfl
            have f2 := frozen_of_blk hb6 2
            clear ht6 hb6
            go_upto_region 9 with fail
            go_wp2_with (first | (go_at_call 35; refine Calls.mono HQ2.out ?_; intro e Y h1; obtain ⟨h1, hY⟩ := h1; subst h1; subst hY) | (refine wpList_append_run rfl _ _ 22 rfl rfl rfl hrun ?_) | fail)
            go_wp2
            go_roundw
            case rel => exact ⟨k + 1, by have := HLT.out; omega, by go_num, Lib.hid ⟨_, _, by rw [HSQ.out, HSB.out]; exact HT.out⟩⟩
            case measure => have := HLT.out; simp [intOf]; omega
        · cases q1
          · have HSQ := Lib.hid (show natI (tqN kn want (k + 1)) = natI (tqN kn want k) ++ [(k : Int)] from by rw [hsq]; unfold natI; simp)
            have HSB := Lib.hid (show natI (tbN wn kn want (k + 1)) = natI (tbN wn kn want k) ++ [(k : Int)] from by rw [hsb]; unfold natI; simp)
            clear hsq hsb
            have hqb := HT.out; obtain ⟨x1, x2, -, -, -, x3, -⟩ := hqb
            obtain ⟨p0, p1, p2, p3⟩ := cells4 x1; obtain ⟨r0, r1, r2, r3⟩ := cells4 x2; obtain ⟨z0, z1, z2, z3⟩ := cells4 x3
            clear x1 x2 x3
            obtain ⟨a5, n5, c5, X5, hrun, hb5, ht5⟩ := TwoL.grow1 HT.out (by rw [natI_len]; have := filter_len k (fun i => want.testBit i && !memL kn i); unfold tqN; omega) (k : Int)
            have HT := Lib.hid ht5
            have y2 := cell_of_blk (o := 2) hb5 rfl
            have f2 := frozen_of_blk hb5 2
            clear ht5 hb5
            go_upto_region 9 with (first | (go_at_call 35; refine Calls.mono HQ1.out ?_; intro e Y h1; obtain ⟨h1, hY⟩ := h1; subst h1; subst hY) | fail)
            go_upto_region 11 with (first | (refine wpList_append_run rfl _ _ 22 rfl rfl rfl hrun ?_) | fail)
            obtain ⟨Y5, hY5⟩ : ∃ Y, Y = X5.setCell ⟨g1, 2, none⟩ (.slice a5 n5 c5) := ⟨_, rfl⟩
            rw [← hY5] at HT ⊢
            clear hY5 hrun y2 f2
            clear p0 p1 p2 p3 r0 r1 r2 r3 z0 z1 z2 z3
            have hqb := HT.out; obtain ⟨x1, x2, -, -, -, x3, -⟩ := hqb
            obtain ⟨p0, p1, p2, p3⟩ := cells4 x1; obtain ⟨r0, r1, r2, r3⟩ := cells4 x2; obtain ⟨z0, z1, z2, z3⟩ := cells4 x3
            clear x1 x2 x3
            obtain ⟨a6, n6, c6, X6, hrun, hb6, ht6⟩ := TwoL.grow2 HT.out (by rw [natI_len]; have := filter_len k (fun i => (want.testBit i && !memL kn i) || memL wn i); unfold tbN; omega) (k : Int)
            have HT := Lib.hid ht6
            have y2 := cell_of_blk (o := 2) hb6 rfl
            have f2 := frozen_of_blk hb6 2
            clear ht6 hb6
            go_wp2_with (first | (refine wpList_append_run rfl _ _ 22 rfl rfl rfl hrun ?_) | fail)
            go_wp2
            go_roundw
            case rel => exact ⟨k + 1, by have := HLT.out; omega, by go_num, Lib.hid ⟨_, _, by rw [HSQ.out, HSB.out]; exact HT.out⟩⟩
            case measure => have := HLT.out; simp [intOf]; omega
          · cases q2
            · have HSQ := Lib.hid (show natI (tqN kn want (k + 1)) = natI (tqN kn want k) from by rw [hsq]; simp)
              have HSB := Lib.hid (show natI (tbN wn kn want (k + 1)) = natI (tbN wn kn want k) from by rw [hsb]; simp)
              clear hsq hsb
              have hqb := HT.out; obtain ⟨x1, x2, -, -, -, x3, -⟩ := hqb
              obtain ⟨p0, p1, p2, p3⟩ := cells4 x1; obtain ⟨r0, r1, r2, r3⟩ := cells4 x2; obtain ⟨z0, z1, z2, z3⟩ := cells4 x3
              clear x1 x2 x3
              go_upto_region 9 with (first | (go_at_call 35; refine Calls.mono HQ1.out ?_; intro e Y h1; obtain ⟨h1, hY⟩ := h1; subst h1; subst hY) | fail)
              go_wp2_with (first | (go_at_call 35; refine Calls.mono HQ2.out ?_; intro e Y h1; obtain ⟨h1, hY⟩ := h1; subst h1; subst hY) | fail)
              clear p0 p1 p2 p3 r0 r1 r2 r3 z0 z1 z2 z3
              go_wp2
              go_roundw
              case rel => exact ⟨k + 1, by have := HLT.out; omega, by go_num, Lib.hid ⟨_, _, by rw [HSQ.out, HSB.out]; exact HT.out⟩⟩
              case measure => have := HLT.out; simp [intOf]; omega
            · have HSQ := Lib.hid (show natI (tqN kn want (k + 1)) = natI (tqN kn want k) from by rw [hsq]; simp)
              have HSB := Lib.hid (show natI (tbN wn kn want (k + 1)) = natI (tbN wn kn want k) ++ [(k : Int)] from by rw [hsb]; unfold natI; simp)
              clear hsq hsb
              have hqb := HT.out; obtain ⟨x1, x2, -, -, -, x3, -⟩ := hqb
              obtain ⟨p0, p1, p2, p3⟩ := cells4 x1; obtain ⟨r0, r1, r2, r3⟩ := cells4 x2; obtain ⟨z0, z1, z2, z3⟩ := cells4 x3
              clear x1 x2 x3
              obtain ⟨a6, n6, c6, X6, hrun, hb6, ht6⟩ := TwoL.grow2 HT.out (by rw [natI_len]; have := filter_len k (fun i => (want.testBit i && !memL kn i) || memL wn i); unfold tbN; omega) (k : Int)
              have HT := Lib.hid ht6
              have y2 := cell_of_blk (o := 2) hb6 rfl
              have f2 := frozen_of_blk hb6 2
              clear ht6 hb6
              go_upto_region 9 with (first | (go_at_call 35; refine Calls.mono HQ1.out ?_; intro e Y h1; obtain ⟨h1, hY⟩ := h1; subst h1; subst hY) | fail)
              go_wp2_with (first | (go_at_call 35; refine Calls.mono HQ2.out ?_; intro e Y h1; obtain ⟨h1, hY⟩ := h1; subst h1; subst hY) | (refine wpList_append_run rfl _ _ 22 rfl rfl rfl hrun ?_) | fail)
              go_wp2
              go_roundw
              case rel => exact ⟨k + 1, by have := HLT.out; omega, by go_num, Lib.hid ⟨_, _, by rw [HSQ.out, HSB.out]; exact HT.out⟩⟩
              case measure => have := HLT.out; simp [intOf]; omega
      · have hkm : k = m := by omega
        subst k
        obtain ⟨x1, x2, o1, o2, -, x3, hE, -⟩ := HT.out
        have HE := Lib.hid hE; have B0 := Lib.hid x3
        have hlq := filter_len m (fun i => want.testBit i && !memL kn i)
        have hlb := filter_len m (fun i => (want.testBit i && !memL kn i) || memL wn i)
        have ru := o1.reads (by rw [natI_len]; unfold tqN; omega)
        have rv := o2.reads (by rw [natI_len]; unfold tbN; omega)
        clear hlq hlb
        obtain ⟨_, au, cu, rfl⟩ := ru.shape
        obtain ⟨_, av, cv, rfl⟩ := rv.shape
        rw [natI_len] at ru x1
        rw [natI_len] at rv x2
        have B1 := Lib.hid x1; have B2 := Lib.hid x2
        obtain ⟨nq, hnq⟩ : ∃ n, n = (tqN kn want m).length := ⟨_, rfl⟩
        obtain ⟨nb, hnb⟩ : ∃ n, n = (tbN wn kn want m).length := ⟨_, rfl⟩
        rw [← hnq] at ru B1
        rw [← hnb] at rv B2
        rw [HM.out] at ru rv
        have hrw1 := HRW.out.ext hE; have hrk1 := HRK.out.ext hE
        have HF1 := Lib.hid (fun (X : World) (h : Ext Y1 X) => fewest_ok W H nw cw nk ck aw ak wn kn HV.out X (hrw1.ext h) (hrk1.ext h))
        have HF2 := Lib.hid (fun (X : World) (h : Ext Y1 X) => fewest_ok W H nq cu nk ck au ak _ kn (tq_vp HV.out want) X (ru.ext h) (hrk1.ext h))
        have HF3 := Lib.hid (fun (X : World) (h : Ext Y1 X) => fewest_ok W H nb cv nk ck av ak _ kn (tb_vp HV.out want) X (rv.ext h) (hrk1.ext h))
        obtain ⟨e1, e2⟩ := together_all HV.out want
        have e3 := stk_few HV.out (smallB (gp HV.out) 64 wn (memL kn))
        have e4 := stk_few (tq_vp HV.out want) (smallB (gp (tq_vp HV.out want)) 64 (tqN kn want (W * H)) (memL kn))
        generalize stk (gp HV.out) (smallB (gp HV.out) 64 wn (memL kn)) = a at *
        generalize stk (gp (tq_vp HV.out want)) (smallB (gp (tq_vp HV.out want)) 64 (tqN kn want (W * H)) (memL kn)) = b at *
        generalize stk (gp (tb_vp HV.out want)) (smallB (gp (tb_vp HV.out want)) 64 (tbN wn kn want (W * H)) (memL kn)) = c at *
        have hW1 := Lib.hid (fun (X : World) (h : Ext Y1 X) => water_r W H nw cw nk ck aw ak wn kn HV.out one HON.out X (hrw1.ext h) (hrk1.ext h))
        have hW2 := Lib.hid (fun (X : World) (h : Ext Y1 X) => water_r W H nw cw nk ck aw ak wn kn HV.out two HTO.out X (hrw1.ext h) (hrk1.ext h))
        have hand := and_u64 one two HON.out HTO.out
        have hor := or_u64 one two HON.out HTO.out
        obtain ⟨an, han⟩ : ∃ x, x = one &&& two := ⟨_, rfl⟩
        obtain ⟨orr, horr⟩ : ∃ x, x = one ||| two := ⟨_, rfl⟩
        have hal : an < 18446744073709551616 := by rw [han]; have := HON.out; exact Nat.lt_of_le_of_lt Nat.and_le_left this
        have hol : orr < 18446744073709551616 := by rw [horr]; exact Nat.or_lt_two_pow (n := 64) HON.out HTO.out
        have hsub := wat_sub HV.out one two
        rw [← han] at hand hsub
        rw [← horr] at hor hsub
        have hW3 := Lib.hid (fun (X : World) (h : Ext Y1 X) => water_r W H nw cw nk ck aw ak wn kn HV.out an hal X (hrw1.ext h) (hrk1.ext h))
        have hW4 := Lib.hid (fun (X : World) (h : Ext Y1 X) => water_r W H nw cw nk ck aw ak wn kn HV.out orr hol X (hrw1.ext h) (hrk1.ext h))
        have hS1 := Lib.hid (fun (X : World) (v : Value) (h : Ext Y1 X) => sticks_w W H nw cw nk ck aw ak wn kn HV.out one v X (hrw1.ext h) (hrk1.ext h))
        have hS2 := Lib.hid (fun (X : World) (v : Value) (h : Ext Y1 X) => sticks_w W H nw cw nk ck aw ak wn kn HV.out two v X (hrw1.ext h) (hrk1.ext h))
        have hS3 := Lib.hid (fun (X : World) (v : Value) (h : Ext Y1 X) => sticks_w W H nw cw nk ck aw ak wn kn HV.out an v X (hrw1.ext h) (hrk1.ext h))
        have hS4 := Lib.hid (fun (X : World) (v : Value) (h : Ext Y1 X) => sticks_w W H nw cw nk ck aw ak wn kn HV.out orr v X (hrw1.ext h) (hrk1.ext h))
        have e5 := stk_few HV.out (memL (watN W H wn kn one (W * H)))
        have e6 := stk_few HV.out (memL (watN W H wn kn two (W * H)))
        generalize stk (gp HV.out) (memL (watN W H wn kn one (W * H))) = s1 at *
        generalize stk (gp HV.out) (memL (watN W H wn kn two (W * H))) = s2 at *
        generalize stk (gp HV.out) (memL (watN W H wn kn an (W * H))) = s3 at *
        generalize stk (gp HV.out) (memL (watN W H wn kn orr (W * H))) = s4 at *
        generalize watN W H wn kn one (W * H) = l1 at *
        generalize watN W H wn kn two (W * H) = l2 at *
        generalize watN W H wn kn an (W * H) = l3 at *
        generalize watN W H wn kn orr (W * H) = l4 at *
        have hc1 : ¬ (a : Int) + (b : Int) < (c : Int) := by omega
        have hc2 : ¬ (c : Int) < (a : Int) := by omega
        have hc3 : ¬ (c : Int) < (b : Int) := by omega
        have hc4 : (s3 : Int) + (s4 : Int) ≤ (s1 : Int) + (s2 : Int) := by omega
        have hw1 : IntKind.i64.wrap ((a : Int) + (b : Int)) = (a : Int) + (b : Int) := wrapi64 _ (by omega) (by omega)
        have hw2 : IntKind.i64.wrap ((s3 : Int) + (s4 : Int)) = (s3 : Int) + (s4 : Int) := wrapi64 _ (by omega) (by omega)
        have hw3 : IntKind.i64.wrap ((s1 : Int) + (s2 : Int)) = (s1 : Int) + (s2 : Int) := wrapi64 _ (by omega) (by omega)
        have b1 : a ≤ 256 := e3
        have b2 : b ≤ 256 := e4
        have HC := Lib.hid (And.intro hc4 (And.intro e5 (And.intro e6 (And.intro hw2 hw3))))
        have HR := Lib.hid (Ext.refl Y1)
        have HAN := Lib.hid (And.intro hand hor)
        have hmm : ¬ (m : Int) < (m : Int) := by omega
        clear hrw1 hrk1 ru rv x1 x2 o1 o2 x3 hE hnq hnb han horr hal hol hsub e1 e2 e3 e4 e5 e6 hc4 hw2 hw3 hand hor HT hk hlt
        obtain ⟨z0, z1, z2, z3⟩ := cells4 B0.out
        go_wp2_with fail
        refine (HF1.out _ HR.out).mono ?_
        rintro e v1 ⟨rfl, h2⟩
        have HE := Lib.hid (HE.out.trans h2); have B0 := Lib.hid (block_ext h2 B0.out); have B1 := Lib.hid (block_ext h2 B1.out); have B2 := Lib.hid (block_ext h2 B2.out); have HR := Lib.hid (HR.out.trans h2)
        clear h2 z0 z1 z2 z3
        obtain ⟨z0, z1, z2, z3⟩ := cells4 B1.out
        go_wp2_with fail
        refine (HF2.out _ HR.out).mono ?_
        rintro e v2 ⟨rfl, h2⟩
        have HE := Lib.hid (HE.out.trans h2); have B0 := Lib.hid (block_ext h2 B0.out); have B1 := Lib.hid (block_ext h2 B1.out); have B2 := Lib.hid (block_ext h2 B2.out); have HR := Lib.hid (HR.out.trans h2)
        clear h2 z0 z1 z2 z3
        obtain ⟨z0, z1, z2, z3⟩ := cells4 B2.out
        go_wp2_with fail
        refine (HF3.out _ HR.out).mono ?_
        rintro e v3 ⟨rfl, h2⟩
        have HE := Lib.hid (HE.out.trans h2); have B0 := Lib.hid (block_ext h2 B0.out); have B1 := Lib.hid (block_ext h2 B1.out); have B2 := Lib.hid (block_ext h2 B2.out); have HR := Lib.hid (HR.out.trans h2)
        clear h2 z0 z1 z2 z3
        go_upto_region 16 with fail
        go_cut [122] from 99 (fun q wx => q = .bool false ∧ Hid (wx = v3))
        case first =>
          go_wp2
          all_goals
            go_meet
            exact ⟨congrArg Value.bool (by rw [Bool.or_eq_false_iff, decide_eq_false_iff_not, decide_eq_false_iff_not]; omega), Lib.hid rfl⟩
        case rest =>
          obtain ⟨rfl, hcw⟩ := hcut
          obtain rfl := hcw.out
          clear hcw
          clear hc1 hc2 hc3 hw1 b1 b2
          have hand := HAN.out.1; have hor := HAN.out.2
          go_upto_region 18 with fail
          refine wp_region_order ((fun V : World => V.heap[w.heap.size]? = some (.cells #[.int .i64 (W : Int), .int .i64 (H : Int), .slice aw nw cw, .slice ak nk ck] 24 (0, 0)))) [0, 1, 3, 4, 2, 5, 6, 7] (by kernel_rfl) (by kernel_rfl) (by exact B0.out) (fun hHeld => ?_)
          simp only [opsIn, List.filterMap_cons, List.filterMap_nil, List.getElem?_toArray, List.getElem?_cons_succ, List.getElem?_cons_zero]
          obtain ⟨d18, hd18⟩ : ∃ Y, Y = wc.drew := ⟨_, rfl⟩
          have h2 : Ext wc d18 := by rw [hd18]; exact (Ext.refl _).drew
          have HE := Lib.hid (HE.out.trans h2); have HR := Lib.hid (HR.out.trans h2)
          rw [← hd18] at hHeld ⊢
          clear hd18 h2
          refine' text_chunk 4 (by kernel_rfl) hHeld ?ck1 ?cr1
          case ck1 =>
            intro W hSw
            have hSW := hSw
            try dsimp only at hSW
            clear hSw
            obtain ⟨z0, z1, z2, z3⟩ := cells4 hSW
            simp only [List.take_succ_cons, List.take_zero, List.drop_succ_cons, List.drop_zero]
            repeat (go_big_quiet_step (fail))
            exact wpQuiet_nil rfl
          simp only [List.take_succ_cons, List.take_zero, List.drop_succ_cons, List.drop_zero]
          refine text_call (by rfl) (by rfl) (fun K hK => ?_)
          go_simp
          refine (hW1.out _ HR.out).mono ?_
          intro e f1 h1; obtain ⟨af1, nf1, cf1, h1, hr1, h2⟩ := h1; subst h1
          have HE := Lib.hid (HE.out.trans h2); have HR := Lib.hid (HR.out.trans h2); have Xf1 := Lib.hid h2
          have RX := Lib.hid hr1
          clear h2 hr1
          all_goals (try (go_wp2_with fail))
          refine hK.out _ _ (by exact block_ext Xf1.out hHeld) (fun hHeld => ?_)
          clear hK K
          try simp only [Act.put, List.setIfInBounds_toArray, List.set_cons_zero, List.set_cons_succ]
          refine text_call (by rfl) (by rfl) (fun K hK => ?_)
          go_simp
          refine (hW2.out _ HR.out).mono ?_
          intro e f2 h1; obtain ⟨af2, nf2, cf2, h1, hr1, h2⟩ := h1; subst h1
          have HE := Lib.hid (HE.out.trans h2); have HR := Lib.hid (HR.out.trans h2); have Xf2 := Lib.hid h2
          have RX := Lib.hid (RX.out.ext h2)
          have RY := Lib.hid hr1
          clear h2 hr1
          all_goals (try (go_wp2_with fail))
          refine hK.out _ _ (by exact block_ext Xf2.out hHeld) (fun hHeld => ?_)
          clear hK K
          try simp only [Act.put, List.setIfInBounds_toArray, List.set_cons_zero, List.set_cons_succ]
          refine' text_chunk 2 (by kernel_rfl) hHeld ?ck2 ?cr2
          case ck2 =>
            intro W hSw
            have hSW := hSw
            try dsimp only at hSW
            clear hSw
            skip
            simp only [List.take_succ_cons, List.take_zero, List.drop_succ_cons, List.drop_zero]
            repeat (go_big_quiet_step (fail))
            exact wpQuiet_nil rfl
          simp only [List.take_succ_cons, List.take_zero, List.drop_succ_cons, List.drop_zero]
          refine text_done ?_
          have B0 := Lib.hid hHeld
          clear hHeld Xf1 Xf2
          go_upto_region 19 with fail
          refine wp_region_order ((fun V : World => V.heap[w.heap.size]? = some (.cells #[.int .i64 (W : Int), .int .i64 (H : Int), .slice aw nw cw, .slice ak nk ck] 24 (0, 0)))) [0, 1, 2, 3, 5, 6, 7, 8, 4, 9, 10, 11] (by kernel_rfl) (by kernel_rfl) (by exact B0.out) (fun hHeld => ?_)
          simp only [opsIn, List.filterMap_cons, List.filterMap_nil, List.getElem?_toArray, List.getElem?_cons_succ, List.getElem?_cons_zero]
          obtain ⟨d19, hd19⟩ : ∃ Y, Y = f2.drew := ⟨_, rfl⟩
          have h2 : Ext f2 d19 := by rw [hd19]; exact (Ext.refl _).drew
          have HE := Lib.hid (HE.out.trans h2); have HR := Lib.hid (HR.out.trans h2)
          have RX := Lib.hid (RX.out.ext h2)
          have RY := Lib.hid (RY.out.ext h2)
          rw [← hd19] at hHeld ⊢
          clear hd19 h2
          refine' text_chunk 8 (by kernel_rfl) hHeld ?ck3 ?cr3
          case ck3 =>
            intro W hSw
            have hSW := hSw
            try dsimp only at hSW
            clear hSw
            obtain ⟨z0, z1, z2, z3⟩ := cells4 hSW
            simp only [List.take_succ_cons, List.take_zero, List.drop_succ_cons, List.drop_zero]
            repeat (go_big_quiet_step (fail))
            exact wpQuiet_nil rfl
          simp only [List.take_succ_cons, List.take_zero, List.drop_succ_cons, List.drop_zero]
          refine text_call (by rfl) (by rfl) (fun K hK => ?_)
          go_simp
          refine (hW3.out _ HR.out).mono ?_
          intro e f3 h1; obtain ⟨af3, nf3, cf3, h1, hr1, h2⟩ := h1; subst h1
          have HE := Lib.hid (HE.out.trans h2); have HR := Lib.hid (HR.out.trans h2); have Xf3 := Lib.hid h2
          have RX := Lib.hid (RX.out.ext h2)
          have RY := Lib.hid (RY.out.ext h2)
          have RU := Lib.hid hr1
          clear h2 hr1
          all_goals (try (go_wp2_with fail))
          refine hK.out _ _ (by exact block_ext Xf3.out hHeld) (fun hHeld => ?_)
          clear hK K
          try simp only [Act.put, List.setIfInBounds_toArray, List.set_cons_zero, List.set_cons_succ]
          refine text_call (by rfl) (by rfl) (fun K hK => ?_)
          go_simp
          refine (hW4.out _ HR.out).mono ?_
          intro e f4 h1; obtain ⟨af4, nf4, cf4, h1, hr1, h2⟩ := h1; subst h1
          have HE := Lib.hid (HE.out.trans h2); have HR := Lib.hid (HR.out.trans h2); have Xf4 := Lib.hid h2
          have RX := Lib.hid (RX.out.ext h2)
          have RY := Lib.hid (RY.out.ext h2)
          have RU := Lib.hid (RU.out.ext h2)
          have RV := Lib.hid hr1
          clear h2 hr1
          all_goals (try (go_wp2_with fail))
          refine hK.out _ _ (by exact block_ext Xf4.out hHeld) (fun hHeld => ?_)
          clear hK K
          try simp only [Act.put, List.setIfInBounds_toArray, List.set_cons_zero, List.set_cons_succ]
          refine' text_chunk 2 (by kernel_rfl) hHeld ?ck4 ?cr4
          case ck4 =>
            intro W hSw
            have hSW := hSw
            try dsimp only at hSW
            clear hSw
            skip
            simp only [List.take_succ_cons, List.take_zero, List.drop_succ_cons, List.drop_zero]
            repeat (go_big_quiet_step (fail))
            exact wpQuiet_nil rfl
          simp only [List.take_succ_cons, List.take_zero, List.drop_succ_cons, List.drop_zero]
          refine text_done ?_
          have B0 := Lib.hid hHeld
          clear hHeld Xf3 Xf4
          clear hand hor
          obtain ⟨z0, z1, z2, z3⟩ := cells4 B0.out
          go_wp2_with fail
          refine (hS1.out _ _ HR.out RX.out).mono ?_
          rintro e j1 ⟨rfl, h2⟩
          have HE := Lib.hid (HE.out.trans h2); have B0 := Lib.hid (block_ext h2 B0.out); have HR := Lib.hid (HR.out.trans h2)
          have RX := Lib.hid (RX.out.ext h2)
          have RY := Lib.hid (RY.out.ext h2)
          have RU := Lib.hid (RU.out.ext h2)
          have RV := Lib.hid (RV.out.ext h2)
          clear h2 z0 z1 z2 z3
          obtain ⟨z0, z1, z2, z3⟩ := cells4 B0.out
          go_wp2_with fail
          refine (hS2.out _ _ HR.out RY.out).mono ?_
          rintro e j2 ⟨rfl, h2⟩
          have HE := Lib.hid (HE.out.trans h2); have B0 := Lib.hid (block_ext h2 B0.out); have HR := Lib.hid (HR.out.trans h2)
          have RX := Lib.hid (RX.out.ext h2)
          have RY := Lib.hid (RY.out.ext h2)
          have RU := Lib.hid (RU.out.ext h2)
          have RV := Lib.hid (RV.out.ext h2)
          clear h2 z0 z1 z2 z3
          obtain ⟨z0, z1, z2, z3⟩ := cells4 B0.out
          go_wp2_with fail
          refine (hS3.out _ _ HR.out RU.out).mono ?_
          rintro e j3 ⟨rfl, h2⟩
          have HE := Lib.hid (HE.out.trans h2); have B0 := Lib.hid (block_ext h2 B0.out); have HR := Lib.hid (HR.out.trans h2)
          have RX := Lib.hid (RX.out.ext h2)
          have RY := Lib.hid (RY.out.ext h2)
          have RU := Lib.hid (RU.out.ext h2)
          have RV := Lib.hid (RV.out.ext h2)
          clear h2 z0 z1 z2 z3
          obtain ⟨z0, z1, z2, z3⟩ := cells4 B0.out
          go_wp2_with fail
          refine (hS4.out _ _ HR.out RV.out).mono ?_
          rintro e j4 ⟨rfl, h2⟩
          have HE := Lib.hid (HE.out.trans h2); have B0 := Lib.hid (block_ext h2 B0.out); have HR := Lib.hid (HR.out.trans h2)
          have RX := Lib.hid (RX.out.ext h2)
          have RY := Lib.hid (RY.out.ext h2)
          have RU := Lib.hid (RU.out.ext h2)
          have RV := Lib.hid (RV.out.ext h2)
          clear h2 z0 z1 z2 z3
          obtain ⟨hc4, e5, e6, hw2, hw3⟩ := HC.out
          go_wp2_with fail
          refine (works_c _).mono ?_
          rintro e wz ⟨rfl, hz⟩
          go_wp2
          go_ret
          exact ⟨rfl, HE.out.trans hz⟩
end Go.Proofs.Ytppjnpempgpkaaa
