/- The reference's answers, by their contracts; open. BoomBests, by its contract. -/
import Derived.Test.YtppjnpempgpkaaaGreatBL
import Derived.Test.YtppjnpempgpkaaaGreatH7
import Derived.Test.YtppjnpempgpkaaaGreatH6
import Derived.Test.YtppjnpempgpkaaaGreatN3
import Derived.Test.YtppjnpempgpkaaaGreatK1
import Derived.Test.YtppjnpempgpkaaaGreatS6
import Derived.Test.YtppjnpempgpkaaaGreatJ3
namespace Go.Proofs.YtppjnpempgpkaaaGreat
open Go.RowKit Go.Shelf
set_option linter.unusedVariables false
set_option linter.unusedSimpArgs false
attribute [local go_sem] Oper.semAt_some
set_option maxRecDepth 100000 in
set_option maxHeartbeats 4000000 in
theorem open_no (W H : Int) (nw cw nk ck : Nat) (aw ak : Option Addr) (wl kl : List Int) (w : World) (hw : Reads w (.slice aw nw cw) wl) (hk : Reads w (.slice ak nk ck) kl) (hne : chkP W H wl kl ≠ 0) :
    Calls Tryz.prog 9 #[.agg #[.int .i64 W, .int .i64 H, .slice aw nw cw, .slice ak nk ck]] w fun e w' => e = .returned (.bool false) ∧ Ext w w' := by
  have HC := Lib.hid (fun (X : World) (h : Ext w X) => rcheckPond_c W H nw cw nk ck aw ak wl kl X (hw.ext h) (hk.ext h))
  generalize chkP W H wl kl = r at *
  have hb : (r != 0) = true := by simpa using hne
  have hb2 : decide (r = 0) = false := decide_eq_false hne
  clear hw hk
  obtain ⟨w1, hw1⟩ : ∃ w1, w1 = w.alloc (.cells #[.int .i64 W, .int .i64 H, .slice aw nw cw, .slice ak nk ck] 24) := ⟨_, rfl⟩
  have HE := Lib.hid (show Ext w w1 from by rw [hw1]; exact (Ext.refl w).alloc _)
  have B0 := Lib.hid (show w1.heap[w.heap.size]? = some (.cells #[.int .i64 W, .int .i64 H, .slice aw nw cw, .slice ak nk ck] 24 (0, 0)) from by rw [hw1]; exact heap_alloc_new w _)
  go_enter Tryz.func9, Tryz.ntmps9
  obtain ⟨z0, z1, z2, z3⟩ := cells4 B0.out
  go_upto_region 1 with fail
  rw [← hw1]
  clear hw1 z0 z1 z2 z3
  obtain ⟨z0, z1, z2, z3⟩ := cells4 B0.out
  go_wp2_with fail
  refine (HC.out _ HE.out).mono ?_
  rintro e w2 ⟨rfl, h2⟩
  have HE := Lib.hid (HE.out.trans h2); have B0 := Lib.hid (block_ext h2 B0.out)
  clear h2 z0 z1 z2 z3
  go_wp2
  go_ret
  exact ⟨rfl, HE.out⟩
set_option maxRecDepth 100000 in
set_option maxHeartbeats 4000000 in
theorem open_ok (W H nw cw nk ck : Nat) (aw ak : Option Addr) (wn kn : List Nat) (hv : VP W H wn kn) (w : World) (hw : Reads w (.slice aw nw cw) (natI wn)) (hk : Reads w (.slice ak nk ck) (natI kn)) :
    Calls Tryz.prog 9 #[.agg #[.int .i64 (W : Int), .int .i64 (H : Int), .slice aw nw cw, .slice ak nk ck]] w fun e w' => e = .returned (.bool (decide (9 < (freN wn kn (W * H)).length))) ∧ Ext w w' := by
  have h0 : chkP W H (natI wn) (natI kn) = 0 := chkP_ok.2 ⟨W, H, wn, kn, ⟨rfl, rfl⟩, ⟨rfl, rfl⟩, hv⟩
  have HC := Lib.hid (fun (X : World) (h : Ext w X) => rcheckPond_c W H nw cw nk ck aw ak (natI wn) (natI kn) X (hw.ext h) (hk.ext h))
  rw [h0] at HC
  clear h0
  have HFR := Lib.hid (fun (X : World) (h : Ext w X) => rfree_c W H nw cw nk ck aw ak wn kn hv X (hw.ext h) (hk.ext h))
  obtain ⟨nf, hnf⟩ : ∃ n, n = (freN wn kn (W * H)).length := ⟨_, rfl⟩
  rw [← hnf] at HFR ⊢
  clear hnf hw hk hv
  obtain ⟨w1, hw1⟩ : ∃ w1, w1 = w.alloc (.cells #[.int .i64 (W : Int), .int .i64 (H : Int), .slice aw nw cw, .slice ak nk ck] 24) := ⟨_, rfl⟩
  have HE := Lib.hid (show Ext w w1 from by rw [hw1]; exact (Ext.refl w).alloc _)
  have B0 := Lib.hid (show w1.heap[w.heap.size]? = some (.cells #[.int .i64 (W : Int), .int .i64 (H : Int), .slice aw nw cw, .slice ak nk ck] 24 (0, 0)) from by rw [hw1]; exact heap_alloc_new w _)
  go_enter Tryz.func9, Tryz.ntmps9
  obtain ⟨z0, z1, z2, z3⟩ := cells4 B0.out
  go_upto_region 1 with fail
  rw [← hw1]
  clear hw1 z0 z1 z2 z3
  obtain ⟨z0, z1, z2, z3⟩ := cells4 B0.out
  go_wp2_with fail
  refine (HC.out _ HE.out).mono ?_
  rintro e w2 ⟨rfl, h2⟩
  have HE := Lib.hid (HE.out.trans h2); have B0 := Lib.hid (block_ext h2 B0.out)
  clear h2 z0 z1 z2 z3
  obtain ⟨z0, z1, z2, z3⟩ := cells4 B0.out
  go_wp2_with fail
  refine (HFR.out _ HE.out).mono ?_
  rintro e w3 ⟨fa, fc, rfl, -, h2⟩
  have HE := Lib.hid (HE.out.trans h2); have B0 := Lib.hid (block_ext h2 B0.out)
  clear h2 z0 z1 z2 z3
  by_cases h9 : 9 < nf
  · have h9a : (9 : Int) < (nf : Int) := by omega
    have HT := Lib.hid (decide_eq_true h9)
    go_wp2
    go_ret
    exact ⟨ret_bool HT.out.symm, HE.out⟩
  · have h9a : ¬ (9 : Int) < (nf : Int) := by omega
    have h9b : (nf : Int) ≤ 9 := by omega
    have HT := Lib.hid (decide_eq_false h9)
    go_wp2
    go_ret
    exact ⟨ret_bool ((decide_eq_false (by omega : ¬ (9 : Int) < (nf : Int))).trans HT.out.symm), HE.out⟩
set_option maxRecDepth 100000 in
set_option maxHeartbeats 4000000 in
theorem rfew_no (W H : Int) (nw cw nk ck : Nat) (aw ak : Option Addr) (wl kl : List Int) (w : World) (hw : Reads w (.slice aw nw cw) wl) (hk : Reads w (.slice ak nk ck) kl) (hne : chkP W H wl kl ≠ 0) :
    Calls Tryz.prog 12 #[.agg #[.int .i64 W, .int .i64 H, .slice aw nw cw, .slice ak nk ck]] w fun e w' => e = .returned (.tuple #[.int .i64 0, .int .i64 (chkP W H wl kl)]) ∧ Ext w w' := by
  have HC := Lib.hid (fun (X : World) (h : Ext w X) => rcheckPond_c W H nw cw nk ck aw ak wl kl X (hw.ext h) (hk.ext h))
  generalize chkP W H wl kl = r at *
  have hb : (r != 0) = true := by simpa using hne
  have hb2 : decide (r = 0) = false := decide_eq_false hne
  clear hw hk
  obtain ⟨w1, hw1⟩ : ∃ w1, w1 = w.alloc (.cells #[.int .i64 W, .int .i64 H, .slice aw nw cw, .slice ak nk ck] 24) := ⟨_, rfl⟩
  have HE := Lib.hid (show Ext w w1 from by rw [hw1]; exact (Ext.refl w).alloc _)
  have B0 := Lib.hid (show w1.heap[w.heap.size]? = some (.cells #[.int .i64 W, .int .i64 H, .slice aw nw cw, .slice ak nk ck] 24 (0, 0)) from by rw [hw1]; exact heap_alloc_new w _)
  go_enter Tryz.func12, Tryz.ntmps12
  obtain ⟨z0, z1, z2, z3⟩ := cells4 B0.out
  go_upto_region 1 with fail
  rw [← hw1]
  clear hw1 z0 z1 z2 z3
  obtain ⟨z0, z1, z2, z3⟩ := cells4 B0.out
  go_wp2_with fail
  refine (HC.out _ HE.out).mono ?_
  rintro e w2 ⟨rfl, h2⟩
  have HE := Lib.hid (HE.out.trans h2); have B0 := Lib.hid (block_ext h2 B0.out)
  clear h2 z0 z1 z2 z3
  obtain ⟨z0, z1, z2, z3⟩ := cells4 B0.out
  go_wp2_with fail
  refine (HC.out _ HE.out).mono ?_
  rintro e w3 ⟨rfl, h2⟩
  have HE := Lib.hid (HE.out.trans h2); have B0 := Lib.hid (block_ext h2 B0.out)
  clear h2 z0 z1 z2 z3
  go_wp2
  refine bodyPost_ret (by first | (simp [results, Tryz.results12, go_sem]; done) | (simp [results, Tryz.results12, go_sem]; rfl)) rfl ?_
  exact ⟨rfl, HE.out⟩
set_option maxRecDepth 100000 in
set_option maxHeartbeats 4000000 in
theorem rsml_no (W H : Int) (nw cw nk ck : Nat) (aw ak : Option Addr) (wl kl : List Int) (w : World) (hw : Reads w (.slice aw nw cw) wl) (hk : Reads w (.slice ak nk ck) kl) (hne : chkP W H wl kl ≠ 0) :
    Calls Tryz.prog 14 #[.agg #[.int .i64 W, .int .i64 H, .slice aw nw cw, .slice ak nk ck]] w fun e w' => e = .returned (.tuple #[.slice none 0 0, .int .i64 (chkP W H wl kl)]) ∧ Ext w w' := by
  have HC := Lib.hid (fun (X : World) (h : Ext w X) => rcheckPond_c W H nw cw nk ck aw ak wl kl X (hw.ext h) (hk.ext h))
  generalize chkP W H wl kl = r at *
  have hb : (r != 0) = true := by simpa using hne
  have hb2 : decide (r = 0) = false := decide_eq_false hne
  clear hw hk
  obtain ⟨w1, hw1⟩ : ∃ w1, w1 = w.alloc (.cells #[.int .i64 W, .int .i64 H, .slice aw nw cw, .slice ak nk ck] 24) := ⟨_, rfl⟩
  have HE := Lib.hid (show Ext w w1 from by rw [hw1]; exact (Ext.refl w).alloc _)
  have B0 := Lib.hid (show w1.heap[w.heap.size]? = some (.cells #[.int .i64 W, .int .i64 H, .slice aw nw cw, .slice ak nk ck] 24 (0, 0)) from by rw [hw1]; exact heap_alloc_new w _)
  go_enter Tryz.func14, Tryz.ntmps14
  obtain ⟨z0, z1, z2, z3⟩ := cells4 B0.out
  go_upto_region 1 with fail
  rw [← hw1]
  clear hw1 z0 z1 z2 z3
  obtain ⟨z0, z1, z2, z3⟩ := cells4 B0.out
  go_wp2_with fail
  refine (HC.out _ HE.out).mono ?_
  rintro e w2 ⟨rfl, h2⟩
  have HE := Lib.hid (HE.out.trans h2); have B0 := Lib.hid (block_ext h2 B0.out)
  clear h2 z0 z1 z2 z3
  obtain ⟨z0, z1, z2, z3⟩ := cells4 B0.out
  go_wp2_with fail
  refine (HC.out _ HE.out).mono ?_
  rintro e w3 ⟨rfl, h2⟩
  have HE := Lib.hid (HE.out.trans h2); have B0 := Lib.hid (block_ext h2 B0.out)
  clear h2 z0 z1 z2 z3
  go_wp2
  refine bodyPost_ret (by first | (simp [results, Tryz.results14, go_sem]; done) | (simp [results, Tryz.results14, go_sem]; rfl)) rfl ?_
  exact ⟨rfl, HE.out⟩
set_option maxRecDepth 100000 in
set_option maxHeartbeats 4000000 in
theorem rlrg_no (W H : Int) (nw cw nk ck : Nat) (aw ak : Option Addr) (wl kl : List Int) (w : World) (hw : Reads w (.slice aw nw cw) wl) (hk : Reads w (.slice ak nk ck) kl) (hne : chkP W H wl kl ≠ 0) :
    Calls Tryz.prog 16 #[.agg #[.int .i64 W, .int .i64 H, .slice aw nw cw, .slice ak nk ck]] w fun e w' => e = .returned (.tuple #[.slice none 0 0, .int .i64 (chkP W H wl kl)]) ∧ Ext w w' := by
  have HC := Lib.hid (fun (X : World) (h : Ext w X) => rcheckPond_c W H nw cw nk ck aw ak wl kl X (hw.ext h) (hk.ext h))
  generalize chkP W H wl kl = r at *
  have hb : (r != 0) = true := by simpa using hne
  have hb2 : decide (r = 0) = false := decide_eq_false hne
  clear hw hk
  obtain ⟨w1, hw1⟩ : ∃ w1, w1 = w.alloc (.cells #[.int .i64 W, .int .i64 H, .slice aw nw cw, .slice ak nk ck] 24) := ⟨_, rfl⟩
  have HE := Lib.hid (show Ext w w1 from by rw [hw1]; exact (Ext.refl w).alloc _)
  have B0 := Lib.hid (show w1.heap[w.heap.size]? = some (.cells #[.int .i64 W, .int .i64 H, .slice aw nw cw, .slice ak nk ck] 24 (0, 0)) from by rw [hw1]; exact heap_alloc_new w _)
  go_enter Tryz.func16, Tryz.ntmps16
  obtain ⟨z0, z1, z2, z3⟩ := cells4 B0.out
  go_upto_region 1 with fail
  rw [← hw1]
  clear hw1 z0 z1 z2 z3
  obtain ⟨z0, z1, z2, z3⟩ := cells4 B0.out
  go_wp2_with fail
  refine (HC.out _ HE.out).mono ?_
  rintro e w2 ⟨rfl, h2⟩
  have HE := Lib.hid (HE.out.trans h2); have B0 := Lib.hid (block_ext h2 B0.out)
  clear h2 z0 z1 z2 z3
  obtain ⟨z0, z1, z2, z3⟩ := cells4 B0.out
  go_wp2_with fail
  refine (HC.out _ HE.out).mono ?_
  rintro e w3 ⟨rfl, h2⟩
  have HE := Lib.hid (HE.out.trans h2); have B0 := Lib.hid (block_ext h2 B0.out)
  clear h2 z0 z1 z2 z3
  go_wp2
  refine bodyPost_ret (by first | (simp [results, Tryz.results16, go_sem]; done) | (simp [results, Tryz.results16, go_sem]; rfl)) rfl ?_
  exact ⟨rfl, HE.out⟩
set_option maxRecDepth 100000 in
set_option maxHeartbeats 4000000 in
theorem rknd_no (W H : Int) (nw cw nk ck : Nat) (aw ak : Option Addr) (wl kl : List Int) (w : World) (hw : Reads w (.slice aw nw cw) wl) (hk : Reads w (.slice ak nk ck) kl) (hne : chkP W H wl kl ≠ 0) (cell : Int) :
    Calls Tryz.prog 18 #[.agg #[.int .i64 W, .int .i64 H, .slice aw nw cw, .slice ak nk ck], .int .i64 cell] w fun e w' => e = .returned (.tuple #[.int .i64 0, .int .i64 (chkP W H wl kl)]) ∧ Ext w w' := by
  have HC := Lib.hid (fun (X : World) (h : Ext w X) => rcheckPond_c W H nw cw nk ck aw ak wl kl X (hw.ext h) (hk.ext h))
  generalize chkP W H wl kl = r at *
  have hb : (r != 0) = true := by simpa using hne
  have hb2 : decide (r = 0) = false := decide_eq_false hne
  clear hw hk
  obtain ⟨w1, hw1⟩ : ∃ w1, w1 = w.alloc (.cells #[.int .i64 W, .int .i64 H, .slice aw nw cw, .slice ak nk ck] 24) := ⟨_, rfl⟩
  have HE := Lib.hid (show Ext w w1 from by rw [hw1]; exact (Ext.refl w).alloc _)
  have B0 := Lib.hid (show w1.heap[w.heap.size]? = some (.cells #[.int .i64 W, .int .i64 H, .slice aw nw cw, .slice ak nk ck] 24 (0, 0)) from by rw [hw1]; exact heap_alloc_new w _)
  go_enter Tryz.func18, Tryz.ntmps18
  obtain ⟨z0, z1, z2, z3⟩ := cells4 B0.out
  go_upto_region 1 with fail
  rw [← hw1]
  clear hw1 z0 z1 z2 z3
  obtain ⟨z0, z1, z2, z3⟩ := cells4 B0.out
  go_wp2_with fail
  refine (HC.out _ HE.out).mono ?_
  rintro e w2 ⟨rfl, h2⟩
  have HE := Lib.hid (HE.out.trans h2); have B0 := Lib.hid (block_ext h2 B0.out)
  clear h2 z0 z1 z2 z3
  obtain ⟨z0, z1, z2, z3⟩ := cells4 B0.out
  go_wp2_with fail
  refine (HC.out _ HE.out).mono ?_
  rintro e w3 ⟨rfl, h2⟩
  have HE := Lib.hid (HE.out.trans h2); have B0 := Lib.hid (block_ext h2 B0.out)
  clear h2 z0 z1 z2 z3
  go_wp2
  refine bodyPost_ret (by first | (simp [results, Tryz.results18, go_sem]; done) | (simp [results, Tryz.results18, go_sem]; rfl)) rfl ?_
  exact ⟨rfl, HE.out⟩
set_option maxRecDepth 100000 in
set_option maxHeartbeats 4000000 in
theorem rsml_ok (W H nw cw nk ck : Nat) (aw ak : Option Addr) (wn kn : List Nat) (hv : VP W H wn kn) (hfr : (freN wn kn (W * H)).length ≤ 9) (w : World) (hw : Reads w (.slice aw nw cw) (natI wn)) (hk : Reads w (.slice ak nk ck) (natI kn)) :
    Calls Tryz.prog 14 #[.agg #[.int .i64 (W : Int), .int .i64 (H : Int), .slice aw nw cw, .slice ak nk ck]] w fun e w' => ∃ u, e = .returned (.tuple #[u, .int .i64 0]) ∧ Reads w' u (natI (smL hv)) ∧ Ext w w' := by
  have h0 : chkP W H (natI wn) (natI kn) = 0 := chkP_ok.2 ⟨W, H, wn, kn, ⟨rfl, rfl⟩, ⟨rfl, rfl⟩, hv⟩
  have HC := Lib.hid (fun (X : World) (h : Ext w X) => rcheckPond_c W H nw cw nk ck aw ak (natI wn) (natI kn) X (hw.ext h) (hk.ext h))
  rw [h0] at HC
  clear h0
  have HA := Lib.hid (fun (X : World) (h : Ext w X) => among_c W H nw cw nk ck aw ak wn kn hv hfr 2 X (hw.ext h) (hk.ext h))
  rw [among_small hv] at HA
  generalize natI (smL hv) = L at *
  clear hw hk hv hfr
  obtain ⟨w1, hw1⟩ : ∃ w1, w1 = w.alloc (.cells #[.int .i64 (W : Int), .int .i64 (H : Int), .slice aw nw cw, .slice ak nk ck] 24) := ⟨_, rfl⟩
  have HE := Lib.hid (show Ext w w1 from by rw [hw1]; exact (Ext.refl w).alloc _)
  have B0 := Lib.hid (show w1.heap[w.heap.size]? = some (.cells #[.int .i64 (W : Int), .int .i64 (H : Int), .slice aw nw cw, .slice ak nk ck] 24 (0, 0)) from by rw [hw1]; exact heap_alloc_new w _)
  go_enter Tryz.func14, Tryz.ntmps14
  obtain ⟨z0, z1, z2, z3⟩ := cells4 B0.out
  go_upto_region 1 with fail
  rw [← hw1]
  clear hw1 z0 z1 z2 z3
  obtain ⟨z0, z1, z2, z3⟩ := cells4 B0.out
  go_wp2_with fail
  refine (HC.out _ HE.out).mono ?_
  rintro e w2 ⟨rfl, h2⟩
  have HE := Lib.hid (HE.out.trans h2); have B0 := Lib.hid (block_ext h2 B0.out)
  clear h2 z0 z1 z2 z3
  obtain ⟨z0, z1, z2, z3⟩ := cells4 B0.out
  go_wp2_with fail
  refine (HA.out _ HE.out).mono ?_
  rintro e w3 ⟨u, rfl, hr1, h2⟩
  have HE := Lib.hid (HE.out.trans h2); have B0 := Lib.hid (block_ext h2 B0.out)
  have HR := Lib.hid hr1
  clear hr1
  clear h2 z0 z1 z2 z3
  go_wp2
  refine bodyPost_ret (by first | (simp [results, Tryz.results14, go_sem]; done) | (simp [results, Tryz.results14, go_sem]; rfl)) rfl ?_
  exact ⟨u, rfl, HR.out, HE.out⟩
set_option maxRecDepth 100000 in
set_option maxHeartbeats 4000000 in
theorem rlrg_ok (W H nw cw nk ck : Nat) (aw ak : Option Addr) (wn kn : List Nat) (hv : VP W H wn kn) (hfr : (freN wn kn (W * H)).length ≤ 9) (w : World) (hw : Reads w (.slice aw nw cw) (natI wn)) (hk : Reads w (.slice ak nk ck) (natI kn)) :
    Calls Tryz.prog 16 #[.agg #[.int .i64 (W : Int), .int .i64 (H : Int), .slice aw nw cw, .slice ak nk ck]] w fun e w' => ∃ u, e = .returned (.tuple #[u, .int .i64 0]) ∧ Reads w' u (natI (lgL hv)) ∧ Ext w w' := by
  have h0 : chkP W H (natI wn) (natI kn) = 0 := chkP_ok.2 ⟨W, H, wn, kn, ⟨rfl, rfl⟩, ⟨rfl, rfl⟩, hv⟩
  have HC := Lib.hid (fun (X : World) (h : Ext w X) => rcheckPond_c W H nw cw nk ck aw ak (natI wn) (natI kn) X (hw.ext h) (hk.ext h))
  rw [h0] at HC
  clear h0
  have HA := Lib.hid (fun (X : World) (h : Ext w X) => among_c W H nw cw nk ck aw ak wn kn hv hfr 1 X (hw.ext h) (hk.ext h))
  rw [among_large hv] at HA
  generalize natI (lgL hv) = L at *
  clear hw hk hv hfr
  obtain ⟨w1, hw1⟩ : ∃ w1, w1 = w.alloc (.cells #[.int .i64 (W : Int), .int .i64 (H : Int), .slice aw nw cw, .slice ak nk ck] 24) := ⟨_, rfl⟩
  have HE := Lib.hid (show Ext w w1 from by rw [hw1]; exact (Ext.refl w).alloc _)
  have B0 := Lib.hid (show w1.heap[w.heap.size]? = some (.cells #[.int .i64 (W : Int), .int .i64 (H : Int), .slice aw nw cw, .slice ak nk ck] 24 (0, 0)) from by rw [hw1]; exact heap_alloc_new w _)
  go_enter Tryz.func16, Tryz.ntmps16
  obtain ⟨z0, z1, z2, z3⟩ := cells4 B0.out
  go_upto_region 1 with fail
  rw [← hw1]
  clear hw1 z0 z1 z2 z3
  obtain ⟨z0, z1, z2, z3⟩ := cells4 B0.out
  go_wp2_with fail
  refine (HC.out _ HE.out).mono ?_
  rintro e w2 ⟨rfl, h2⟩
  have HE := Lib.hid (HE.out.trans h2); have B0 := Lib.hid (block_ext h2 B0.out)
  clear h2 z0 z1 z2 z3
  obtain ⟨z0, z1, z2, z3⟩ := cells4 B0.out
  go_wp2_with fail
  refine (HA.out _ HE.out).mono ?_
  rintro e w3 ⟨u, rfl, hr1, h2⟩
  have HE := Lib.hid (HE.out.trans h2); have B0 := Lib.hid (block_ext h2 B0.out)
  have HR := Lib.hid hr1
  clear hr1
  clear h2 z0 z1 z2 z3
  go_wp2
  refine bodyPost_ret (by first | (simp [results, Tryz.results16, go_sem]; done) | (simp [results, Tryz.results16, go_sem]; rfl)) rfl ?_
  exact ⟨u, rfl, HR.out, HE.out⟩
set_option maxRecDepth 100000 in
set_option maxHeartbeats 4000000 in
theorem rfew_ok (W H nw cw nk ck : Nat) (aw ak : Option Addr) (wn kn : List Nat) (hv : VP W H wn kn) (hfr : (freN wn kn (W * H)).length ≤ 9) (w : World) (hw : Reads w (.slice aw nw cw) (natI wn)) (hk : Reads w (.slice ak nk ck) (natI kn)) :
    Calls Tryz.prog 12 #[.agg #[.int .i64 (W : Int), .int .i64 (H : Int), .slice aw nw cw, .slice ak nk ck]] w fun e w' => e = .returned (.tuple #[.int .i64 (fewN hv : Int), .int .i64 0]) ∧ Ext w w' := by
  have h0 : chkP W H (natI wn) (natI kn) = 0 := chkP_ok.2 ⟨W, H, wn, kn, ⟨rfl, rfl⟩, ⟨rfl, rfl⟩, hv⟩
  have HC := Lib.hid (fun (X : World) (h : Ext w X) => rcheckPond_c W H nw cw nk ck aw ak (natI wn) (natI kn) X (hw.ext h) (hk.ext h))
  rw [h0] at HC
  clear h0
  have HBS := Lib.hid (fun (X : World) (h : Ext w X) => bests_c W H nw cw nk ck aw ak wn kn hv hfr X (hw.ext h) (hk.ext h))
  rw [show (stB hv (freN wn kn (W * H)) (2 ^ (freN wn kn (W * H)).length)).2 = allB hv from rfl] at HBS
  obtain ⟨⟨n0, hn0⟩, hall, -⟩ := allB_facts hv
  have HSO := Lib.hid (fun (ns : List Nat) (hns : ns ∈ allB hv) (X : World) (v : Value) (hx : Reads X v (natI ns)) => by
    have h := rsticksOf_c W H nw cw nk ck aw ak ns v X ⟨hv.w1, hv.w8⟩ ⟨hv.h1, hv.h8⟩ hx (by have := (hall ns hns).1.len; have := hv.n64; omega) (hall ns hns).1.lt
    rw [out_stk hv (hall ns hns).1, (hall ns hns).2.2] at h
    exact h)
  have hpos : 0 < (allB hv).length := List.length_pos_of_mem hn0
  generalize fewN hv = N at *
  generalize allB hv = L at *
  clear hw hk hfr n0 hn0 hall hv
  obtain ⟨w1, hw1⟩ : ∃ w1, w1 = w.alloc (.cells #[.int .i64 (W : Int), .int .i64 (H : Int), .slice aw nw cw, .slice ak nk ck] 24) := ⟨_, rfl⟩
  have HE := Lib.hid (show Ext w w1 from by rw [hw1]; exact (Ext.refl w).alloc _)
  have B0 := Lib.hid (show w1.heap[w.heap.size]? = some (.cells #[.int .i64 (W : Int), .int .i64 (H : Int), .slice aw nw cw, .slice ak nk ck] 24 (0, 0)) from by rw [hw1]; exact heap_alloc_new w _)
  go_enter Tryz.func12, Tryz.ntmps12
  obtain ⟨z0, z1, z2, z3⟩ := cells4 B0.out
  go_upto_region 1 with fail
  rw [← hw1]
  clear hw1 z0 z1 z2 z3
  obtain ⟨z0, z1, z2, z3⟩ := cells4 B0.out
  go_wp2_with fail
  refine (HC.out _ HE.out).mono ?_
  rintro e w2 ⟨rfl, h2⟩
  have HE := Lib.hid (HE.out.trans h2); have B0 := Lib.hid (block_ext h2 B0.out)
  clear h2 z0 z1 z2 z3
  obtain ⟨z0, z1, z2, z3⟩ := cells4 B0.out
  go_upto_region 3 with fail
  clear z0 z1 z2 z3
  refine wp_region_order ((fun V : World => V.heap[w.heap.size]? = some (.cells #[.int .i64 (W : Int), .int .i64 (H : Int), .slice aw nw cw, .slice ak nk ck] 24 (0, 0)))) [0, 1, 2, 3, 4, 5, 6, 7] (by kernel_rfl) (by kernel_rfl) (by exact B0.out) (fun hHeld => ?_)
  simp only [opsIn, List.filterMap_cons, List.filterMap_nil, List.getElem?_toArray, List.getElem?_cons_succ, List.getElem?_cons_zero]
  obtain ⟨d3, hd3⟩ : ∃ Y, Y = w2.drew := ⟨_, rfl⟩
  have h2 : Ext w2 d3 := by rw [hd3]; exact (Ext.refl _).drew
  have HE := Lib.hid (HE.out.trans h2)
  rw [← hd3] at hHeld ⊢
  clear hd3 h2
  refine' text_chunk 2 (by kernel_rfl) hHeld ?ck1 ?cr1
  case ck1 =>
    intro W hSw
    have hSW := hSw
    try dsimp only at hSW
    clear hSw
    obtain ⟨z0, z1, z2, z3⟩ := cells4 hSW
    simp only [List.take_succ_cons, List.take_zero, List.drop_succ_cons, List.drop_zero]
    repeat (go_big_quiet_step (fail))
    exact wpQuiet_nil rfl
  simp only [List.take_succ_cons, List.take_zero, List.drop_succ_cons, List.drop_zero]
  refine text_call_more (by rfl) (by rfl) (fun K hK => ?_)
  go_simp
  refine (HBS.out _ HE.out).mono ?_
  intro e v1 h1; obtain ⟨la, ln, lc, h1, hr1, h2⟩ := h1
  subst h1
  have HE := Lib.hid (HE.out.trans h2); have X1 := Lib.hid h2
  have hrl := hr1
  obtain ⟨hl2, a', cap', e', -, -⟩ := hrl
  cases e'
  obtain ⟨lb, lo, ll, xu, xm, xc, rfl, hll, hcell, hrx⟩ := hr1.at (i := 0) (by rw [List.length_map]; exact hpos)
  rw [List.getElem?_map] at hll
  obtain ⟨n0, hn0⟩ : ∃ n0, L[0]? = some n0 := get_some hpos
  rw [hn0] at hll
  obtain rfl : natI n0 = ll := Option.some.inj hll
  rw [Nat.add_zero] at hcell
  have HRX := Lib.hid hrx; have HM0 := Lib.hid (List.mem_of_getElem? hn0)
  have hn1 : (0 : Int) < (((L.map natI).length : Nat) : Int) := by rw [List.length_map]; omega
  generalize (L.map natI).length = ln at *
  clear h2 hr1 hll hn0 hrx
  all_goals (try (go_wp2_with fail))
  refine hK.out (fun V : World => V.heap[w.heap.size]? = some (.cells #[.int .i64 (W : Int), .int .i64 (H : Int), .slice aw nw cw, .slice ak nk ck] 24 (0, 0)) ∧ V.cell? ⟨lb, lo, none⟩ = some (.slice xu xm xc)) _ _ (fun Y h => h.1) ⟨block_ext X1.out hHeld, hcell⟩ (fun hHeld => ?_)
  clear hK K hcell
  try simp only [Act.put, List.setIfInBounds_toArray, List.set_cons_zero, List.set_cons_succ]
  refine' text_chunk 2 (by kernel_rfl) hHeld ?ck2 ?cr2
  case ck2 =>
    intro W hSw
    have hSW := hSw
    try dsimp only at hSW
    clear hSw
    obtain ⟨hSW, hSC⟩ := hSW
    simp only [List.take_succ_cons, List.take_zero, List.drop_succ_cons, List.drop_zero]
    repeat (go_big_quiet_step (fail))
    exact wpQuiet_nil rfl
  simp only [List.take_succ_cons, List.take_zero, List.drop_succ_cons, List.drop_zero]
  refine text_call (by rfl) (by rfl) (fun K hK => ?_)
  go_simp
  refine (HSO.out _ HM0.out _ _ HRX.out).mono ?_
  intro e v2 h1; obtain ⟨h1, h2⟩ := h1
  subst h1
  have HE := Lib.hid (HE.out.trans h2); have X2 := Lib.hid h2
  clear h2
  all_goals (try (go_wp2_with fail))
  refine hK.out _ _ (by exact ⟨block_ext X2.out hHeld.1, cell_ext X2.out hHeld.2⟩) (fun hHeld => ?_)
  clear hK K
  try simp only [Act.put, List.setIfInBounds_toArray, List.set_cons_zero, List.set_cons_succ]
  refine' text_chunk 2 (by kernel_rfl) hHeld ?ck3 ?cr3
  case ck3 =>
    intro W hSw
    have hSW := hSw
    try dsimp only at hSW
    clear hSw
    skip
    simp only [List.take_succ_cons, List.take_zero, List.drop_succ_cons, List.drop_zero]
    repeat (go_big_quiet_step (fail))
    exact wpQuiet_nil rfl
  simp only [List.take_succ_cons, List.take_zero, List.drop_succ_cons, List.drop_zero]
  refine text_done ?_
  clear hHeld
  go_wp2
  refine bodyPost_ret (by first | (simp [results, Tryz.results12, go_sem]; done) | (simp [results, Tryz.results12, go_sem]; rfl)) rfl ?_
  exact ⟨rfl, HE.out⟩
set_option maxRecDepth 100000 in
set_option maxHeartbeats 4000000 in
theorem rknd_bad (W H nw cw nk ck : Nat) (aw ak : Option Addr) (wn kn : List Nat) (hv : VP W H wn kn) (cell : Int) (hc : cell < 0 ∨ ((W * H : Nat) : Int) ≤ cell) (w : World) (hw : Reads w (.slice aw nw cw) (natI wn)) (hk : Reads w (.slice ak nk ck) (natI kn)) :
    Calls Tryz.prog 18 #[.agg #[.int .i64 (W : Int), .int .i64 (H : Int), .slice aw nw cw, .slice ak nk ck], .int .i64 cell] w fun e w' => e = .returned (.tuple #[.int .i64 0, .int .i64 2]) ∧ Ext w w' := by
  have h0 : chkP W H (natI wn) (natI kn) = 0 := chkP_ok.2 ⟨W, H, wn, kn, ⟨rfl, rfl⟩, ⟨rfl, rfl⟩, hv⟩
  have HC := Lib.hid (fun (X : World) (h : Ext w X) => rcheckPond_c W H nw cw nk ck aw ak (natI wn) (natI kn) X (hw.ext h) (hk.ext h))
  rw [h0] at HC
  clear h0
  have hW8 := hv.w8; have hH8 := hv.h8
  have HCE := Lib.hid (fun (X : World) => rcells_c W H nw cw nk ck aw ak hW8 hH8 X)
  clear hW8 hH8
  generalize W * H = m at *
  clear hw hk hv
  obtain ⟨w1, hw1⟩ : ∃ w1, w1 = w.alloc (.cells #[.int .i64 (W : Int), .int .i64 (H : Int), .slice aw nw cw, .slice ak nk ck] 24) := ⟨_, rfl⟩
  have HE := Lib.hid (show Ext w w1 from by rw [hw1]; exact (Ext.refl w).alloc _)
  have B0 := Lib.hid (show w1.heap[w.heap.size]? = some (.cells #[.int .i64 (W : Int), .int .i64 (H : Int), .slice aw nw cw, .slice ak nk ck] 24 (0, 0)) from by rw [hw1]; exact heap_alloc_new w _)
  go_enter Tryz.func18, Tryz.ntmps18
  obtain ⟨z0, z1, z2, z3⟩ := cells4 B0.out
  go_upto_region 1 with fail
  rw [← hw1]
  clear hw1 z0 z1 z2 z3
  obtain ⟨z0, z1, z2, z3⟩ := cells4 B0.out
  go_wp2_with fail
  refine (HC.out _ HE.out).mono ?_
  rintro e w2 ⟨rfl, h2⟩
  have HE := Lib.hid (HE.out.trans h2); have B0 := Lib.hid (block_ext h2 B0.out)
  clear h2 z0 z1 z2 z3
  by_cases hn : cell < 0
  · clear hc
    go_wp2
    refine bodyPost_ret (by first | (simp [results, Tryz.results18, go_sem]; done) | (simp [results, Tryz.results18, go_sem]; rfl)) rfl ?_
    exact ⟨rfl, HE.out⟩
  · have hg : ((m : Nat) : Int) ≤ cell := by omega
    have hn2 : (0 : Int) ≤ cell := by omega
    clear hc
    obtain ⟨z0, z1, z2, z3⟩ := cells4 B0.out
    go_wp2_with fail
    refine (HCE.out _).mono ?_
    rintro e w3 ⟨rfl, h2⟩
    have HE := Lib.hid (HE.out.trans h2); have B0 := Lib.hid (block_ext h2 B0.out)
    clear h2 z0 z1 z2 z3
    go_wp2
    refine bodyPost_ret (by first | (simp [results, Tryz.results18, go_sem]; done) | (simp [results, Tryz.results18, go_sem]; rfl)) rfl ?_
    exact ⟨rfl, HE.out⟩
set_option maxRecDepth 100000 in
set_option maxHeartbeats 4000000 in
theorem rknd_ok (W H nw cw nk ck : Nat) (aw ak : Option Addr) (wn kn : List Nat) (hv : VP W H wn kn) (hfr : (freN wn kn (W * H)).length ≤ 9) (c : Nat) (hc : c < W * H) (w : World) (hw : Reads w (.slice aw nw cw) (natI wn)) (hk : Reads w (.slice ak nk ck) (natI kn)) :
    Calls Tryz.prog 18 #[.agg #[.int .i64 (W : Int), .int .i64 (H : Int), .slice aw nw cw, .slice ak nk ck], .int .i64 (c : Int)] w fun e w' => e = .returned (.tuple #[.int .i64 (kindK (smallB (gp hv) 64 wn (memL kn) c) (largeB (gp hv) 64 wn (memL kn) c)), .int .i64 0]) ∧ Ext w w' := by
  have h0 : chkP W H (natI wn) (natI kn) = 0 := chkP_ok.2 ⟨W, H, wn, kn, ⟨rfl, rfl⟩, ⟨rfl, rfl⟩, hv⟩
  have HC := Lib.hid (fun (X : World) (h : Ext w X) => rcheckPond_c W H nw cw nk ck aw ak (natI wn) (natI kn) X (hw.ext h) (hk.ext h))
  rw [h0] at HC
  clear h0
  have hW8 := hv.w8; have hH8 := hv.h8
  have HCE := Lib.hid (fun (X : World) => rcells_c W H nw cw nk ck aw ak hW8 hH8 X)
  clear hW8 hH8
  have HBS := Lib.hid (fun (X : World) (h : Ext w X) => bests_c W H nw cw nk ck aw ak wn kn hv hfr X (hw.ext h) (hk.ext h))
  rw [show (stB hv (freN wn kn (W * H)) (2 ^ (freN wn kn (W * H)).length)).2 = allB hv from rfl] at HBS
  rw [← kind_is hv hc]
  generalize (allB hv).map natI = L at *
  have HKL := Lib.hid (fun (a : Option Addr) (n cap : Nat) (X : World) (h : ReadsLL X (.slice a n cap) L) => kindL_c a n cap L (c : Int) X h)
  generalize kindV L (c : Int) = kv at *
  generalize W * H = m at *
  have hn : ¬ (c : Int) < 0 := by omega
  have hn2 : (0 : Int) ≤ (c : Int) := by omega
  have hg : ¬ ((m : Nat) : Int) ≤ (c : Int) := by omega
  have hg2 : (c : Int) < ((m : Nat) : Int) := by omega
  clear hw hk hv hfr hc
  obtain ⟨w1, hw1⟩ : ∃ w1, w1 = w.alloc (.cells #[.int .i64 (W : Int), .int .i64 (H : Int), .slice aw nw cw, .slice ak nk ck] 24) := ⟨_, rfl⟩
  have HE := Lib.hid (show Ext w w1 from by rw [hw1]; exact (Ext.refl w).alloc _)
  have B0 := Lib.hid (show w1.heap[w.heap.size]? = some (.cells #[.int .i64 (W : Int), .int .i64 (H : Int), .slice aw nw cw, .slice ak nk ck] 24 (0, 0)) from by rw [hw1]; exact heap_alloc_new w _)
  go_enter Tryz.func18, Tryz.ntmps18
  obtain ⟨z0, z1, z2, z3⟩ := cells4 B0.out
  go_upto_region 1 with fail
  rw [← hw1]
  clear hw1 z0 z1 z2 z3
  obtain ⟨z0, z1, z2, z3⟩ := cells4 B0.out
  go_wp2_with fail
  refine (HC.out _ HE.out).mono ?_
  rintro e w2 ⟨rfl, h2⟩
  have HE := Lib.hid (HE.out.trans h2); have B0 := Lib.hid (block_ext h2 B0.out)
  clear h2 z0 z1 z2 z3
  obtain ⟨z0, z1, z2, z3⟩ := cells4 B0.out
  go_wp2_with fail
  refine (HCE.out _).mono ?_
  rintro e w3 ⟨rfl, h2⟩
  have HE := Lib.hid (HE.out.trans h2); have B0 := Lib.hid (block_ext h2 B0.out)
  clear h2 z0 z1 z2 z3
  obtain ⟨z0, z1, z2, z3⟩ := cells4 B0.out
  go_wp2_with fail
  refine (HBS.out _ HE.out).mono ?_
  rintro e w4 ⟨la, ln, lc, rfl, hr1, h2⟩
  have HE := Lib.hid (HE.out.trans h2); have B0 := Lib.hid (block_ext h2 B0.out)
  have HK := Lib.hid (HKL.out la ln lc w4 hr1)
  clear hr1
  clear h2 z0 z1 z2 z3
  go_wp2_with fail
  refine (HK.out).mono ?_
  rintro e w5 ⟨rfl, h2⟩
  have HE := Lib.hid (HE.out.trans h2); have B0 := Lib.hid (block_ext h2 B0.out)
  clear h2
  go_wp2
  refine bodyPost_ret (by first | (simp [results, Tryz.results18, go_sem]; done) | (simp [results, Tryz.results18, go_sem]; rfl)) rfl ?_
  exact ⟨rfl, HE.out⟩
end Go.Proofs.YtppjnpempgpkaaaGreat
namespace Go.Proofs.YtppjnpempgpkaaaGreat
open Go.RowKit Go.Shelf
set_option linter.unusedVariables false
set_option linter.unusedSimpArgs false
attribute [local go_sem] Oper.semAt_some

/-- The four answers, of the program and of the reference. -/
theorem eight (W H : Int) (aw ak : Option Addr) (cw ck : Nat) (wl kl : List Int) (cell : Int) (w : World) (hw : Reads w (.slice aw wl.length cw) wl) (hk : Reads w (.slice ak kl.length ck) kl) :
    ∃ o : Bool, (∀ X : World, Ext w X → Calls Tryz.prog 9 #[.agg #[.int .i64 W, .int .i64 H, .slice aw wl.length cw, .slice ak kl.length ck]] X fun e w' => e = .returned (.bool o) ∧ Ext X w') ∧
      (o = false → ∃ (f r k q : Int) (s l : List Int), (∀ X : World, Ext w X → Calls Tryz.prog 11 #[.agg #[.int .i64 W, .int .i64 H, .slice aw wl.length cw, .slice ak kl.length ck]] X fun e w' => e = .returned (.tuple #[.int .i64 f, .int .i64 r]) ∧ Ext X w') ∧ (∀ X : World, Ext w X → Calls Tryz.prog 12 #[.agg #[.int .i64 W, .int .i64 H, .slice aw wl.length cw, .slice ak kl.length ck]] X fun e w' => e = .returned (.tuple #[.int .i64 f, .int .i64 r]) ∧ Ext X w') ∧ (∀ X : World, Ext w X → Calls Tryz.prog 13 #[.agg #[.int .i64 W, .int .i64 H, .slice aw wl.length cw, .slice ak kl.length ck]] X fun e w' => ∃ u, e = .returned (.tuple #[u, .int .i64 r]) ∧ Reads w' u s ∧ Ext X w') ∧ (∀ X : World, Ext w X → Calls Tryz.prog 14 #[.agg #[.int .i64 W, .int .i64 H, .slice aw wl.length cw, .slice ak kl.length ck]] X fun e w' => ∃ u, e = .returned (.tuple #[u, .int .i64 r]) ∧ Reads w' u s ∧ Ext X w') ∧ (∀ X : World, Ext w X → Calls Tryz.prog 15 #[.agg #[.int .i64 W, .int .i64 H, .slice aw wl.length cw, .slice ak kl.length ck]] X fun e w' => ∃ u, e = .returned (.tuple #[u, .int .i64 r]) ∧ Reads w' u l ∧ Ext X w') ∧ (∀ X : World, Ext w X → Calls Tryz.prog 16 #[.agg #[.int .i64 W, .int .i64 H, .slice aw wl.length cw, .slice ak kl.length ck]] X fun e w' => ∃ u, e = .returned (.tuple #[u, .int .i64 r]) ∧ Reads w' u l ∧ Ext X w') ∧ (∀ X : World, Ext w X → Calls Tryz.prog 17 #[.agg #[.int .i64 W, .int .i64 H, .slice aw wl.length cw, .slice ak kl.length ck], .int .i64 cell] X fun e w' => e = .returned (.tuple #[.int .i64 k, .int .i64 q]) ∧ Ext X w') ∧ (∀ X : World, Ext w X → Calls Tryz.prog 18 #[.agg #[.int .i64 W, .int .i64 H, .slice aw wl.length cw, .slice ak kl.length ck], .int .i64 cell] X fun e w' => e = .returned (.tuple #[.int .i64 k, .int .i64 q]) ∧ Ext X w')) := by
  by_cases h0 : chkP W H wl kl = 0
  · obtain ⟨W', H', wn, kn, ⟨rfl, rfl⟩, ⟨rfl, rfl⟩, hv⟩ := chkP_ok.1 h0
    refine ⟨_, fun X h => open_ok W' H' _ cw _ ck aw ak wn kn hv X (hw.ext h) (hk.ext h), fun ho => ?_⟩
    have hfr : (freN wn kn (W' * H')).length ≤ 9 := by have := of_decide_eq_false ho; omega
    have hk2 : ∃ k q : Int, (∀ X : World, Ext w X → Calls Tryz.prog 17 #[.agg #[.int .i64 (W' : Int), .int .i64 (H' : Int), .slice aw (natI wn).length cw, .slice ak (natI kn).length ck], .int .i64 cell] X fun e w' => e = .returned (.tuple #[.int .i64 k, .int .i64 q]) ∧ Ext X w') ∧ (∀ X : World, Ext w X → Calls Tryz.prog 18 #[.agg #[.int .i64 (W' : Int), .int .i64 (H' : Int), .slice aw (natI wn).length cw, .slice ak (natI kn).length ck], .int .i64 cell] X fun e w' => e = .returned (.tuple #[.int .i64 k, .int .i64 q]) ∧ Ext X w') := by
      by_cases hc : cell < 0 ∨ ((W' * H' : Nat) : Int) ≤ cell
      · refine ⟨0, 2, fun X h => kind_bad W' H' _ cw _ ck aw ak wn kn hv cell X (hw.ext h) (hk.ext h) ?_, fun X h => rknd_bad W' H' _ cw _ ck aw ak wn kn hv cell hc X (hw.ext h) (hk.ext h)⟩
        exact Bool.eq_false_iff.2 fun he => by have := lst_one.1 he; omega
      · obtain ⟨c, rfl⟩ : ∃ c : Nat, cell = (c : Int) := ⟨cell.toNat, by omega⟩
        have hc' : c < W' * H' := by omega
        exact ⟨_, 0, fun X h => kind_ok W' H' _ cw _ ck aw ak wn kn hv c hc' X (hw.ext h) (hk.ext h), fun X h => rknd_ok W' H' _ cw _ ck aw ak wn kn hv hfr c hc' X (hw.ext h) (hk.ext h)⟩
    obtain ⟨k, q, h7, h8⟩ := hk2
    exact ⟨fewN hv, 0, k, q, natI (smL hv), natI (lgL hv), fun X h => fewest_ok W' H' _ cw _ ck aw ak wn kn hv X (hw.ext h) (hk.ext h), fun X h => rfew_ok W' H' _ cw _ ck aw ak wn kn hv hfr X (hw.ext h) (hk.ext h), fun X h => small_ok W' H' _ cw _ ck aw ak wn kn hv X (hw.ext h) (hk.ext h), fun X h => rsml_ok W' H' _ cw _ ck aw ak wn kn hv hfr X (hw.ext h) (hk.ext h), fun X h => large_ok W' H' _ cw _ ck aw ak wn kn hv X (hw.ext h) (hk.ext h), fun X h => rlrg_ok W' H' _ cw _ ck aw ak wn kn hv hfr X (hw.ext h) (hk.ext h), h7, h8⟩
  · refine ⟨false, fun X h => open_no W H wl.length cw kl.length ck aw ak wl kl X (hw.ext h) (hk.ext h) h0, fun _ => ⟨0, chkP W H wl kl, 0, chkP W H wl kl, [], [], fun X h => fewest_no W H wl.length cw kl.length ck aw ak wl kl X (hw.ext h) (hk.ext h) h0, fun X h => rfew_no W H wl.length cw kl.length ck aw ak wl kl X (hw.ext h) (hk.ext h) h0, fun X h => ?_, fun X h => ?_, fun X h => ?_, fun X h => ?_, fun X h => kind_no W H wl.length cw kl.length ck aw ak wl kl X (hw.ext h) (hk.ext h) h0 cell, fun X h => rknd_no W H wl.length cw kl.length ck aw ak wl kl X (hw.ext h) (hk.ext h) h0 cell⟩⟩
    · exact (small_no W H wl.length cw kl.length ck aw ak wl kl X (hw.ext h) (hk.ext h) h0).mono fun e w' ⟨h1, h2⟩ => ⟨_, h1, Reads.nil w', h2⟩
    · exact (rsml_no W H wl.length cw kl.length ck aw ak wl kl X (hw.ext h) (hk.ext h) h0).mono fun e w' ⟨h1, h2⟩ => ⟨_, h1, Reads.nil w', h2⟩
    · exact (large_no W H wl.length cw kl.length ck aw ak wl kl X (hw.ext h) (hk.ext h) h0).mono fun e w' ⟨h1, h2⟩ => ⟨_, h1, Reads.nil w', h2⟩
    · exact (rlrg_no W H wl.length cw kl.length ck aw ak wl kl X (hw.ext h) (hk.ext h) h0).mono fun e w' ⟨h1, h2⟩ => ⟨_, h1, Reads.nil w', h2⟩
set_option maxRecDepth 100000 in
set_option maxHeartbeats 4000000 in
theorem bests_l (W H : Int) (aw ak : Option Addr) (cw ck : Nat) (wl kl : List Int) (cell : Int) (w : World) (hw : wl.length ≤ 5000 → Reads w (.slice aw wl.length cw) wl) (hk : kl.length ≤ 5000 → Reads w (.slice ak kl.length ck) kl) :
    Calls Tryz.prog 3 #[.agg #[.int .i64 W, .int .i64 H, .slice aw wl.length cw, .slice ak kl.length ck], .int .i64 cell] w fun e w' => e = .returned (.bool true) ∧ Ext w w' := by
  obtain ⟨g, hg⟩ : ∃ g, g = (decide (70 < wl.length) || decide (70 < kl.length)) := ⟨_, rfl⟩
  have HG := Lib.hid (show ∀ X : World, Calls Tryz.prog 8 #[.agg #[.int .i64 W, .int .i64 H, .slice aw wl.length cw, .slice ak kl.length ck]] X fun e w' => e = .returned (.bool g) ∧ Ext X w' from fun X => by rw [hg]; exact great_c W H _ cw _ ck aw ak X)
  have H8 := Lib.hid (show g = false → (∃ o : Bool, (∀ X : World, Ext w X → Calls Tryz.prog 9 #[.agg #[.int .i64 W, .int .i64 H, .slice aw wl.length cw, .slice ak kl.length ck]] X fun e w' => e = .returned (.bool o) ∧ Ext X w') ∧ (o = false → ∃ (f r k q : Int) (s l : List Int), (∀ X : World, Ext w X → Calls Tryz.prog 11 #[.agg #[.int .i64 W, .int .i64 H, .slice aw wl.length cw, .slice ak kl.length ck]] X fun e w' => e = .returned (.tuple #[.int .i64 f, .int .i64 r]) ∧ Ext X w') ∧ (∀ X : World, Ext w X → Calls Tryz.prog 12 #[.agg #[.int .i64 W, .int .i64 H, .slice aw wl.length cw, .slice ak kl.length ck]] X fun e w' => e = .returned (.tuple #[.int .i64 f, .int .i64 r]) ∧ Ext X w') ∧ (∀ X : World, Ext w X → Calls Tryz.prog 13 #[.agg #[.int .i64 W, .int .i64 H, .slice aw wl.length cw, .slice ak kl.length ck]] X fun e w' => ∃ u, e = .returned (.tuple #[u, .int .i64 r]) ∧ Reads w' u s ∧ Ext X w') ∧ (∀ X : World, Ext w X → Calls Tryz.prog 14 #[.agg #[.int .i64 W, .int .i64 H, .slice aw wl.length cw, .slice ak kl.length ck]] X fun e w' => ∃ u, e = .returned (.tuple #[u, .int .i64 r]) ∧ Reads w' u s ∧ Ext X w') ∧ (∀ X : World, Ext w X → Calls Tryz.prog 15 #[.agg #[.int .i64 W, .int .i64 H, .slice aw wl.length cw, .slice ak kl.length ck]] X fun e w' => ∃ u, e = .returned (.tuple #[u, .int .i64 r]) ∧ Reads w' u l ∧ Ext X w') ∧ (∀ X : World, Ext w X → Calls Tryz.prog 16 #[.agg #[.int .i64 W, .int .i64 H, .slice aw wl.length cw, .slice ak kl.length ck]] X fun e w' => ∃ u, e = .returned (.tuple #[u, .int .i64 r]) ∧ Reads w' u l ∧ Ext X w') ∧ (∀ X : World, Ext w X → Calls Tryz.prog 17 #[.agg #[.int .i64 W, .int .i64 H, .slice aw wl.length cw, .slice ak kl.length ck], .int .i64 cell] X fun e w' => e = .returned (.tuple #[.int .i64 k, .int .i64 q]) ∧ Ext X w') ∧ (∀ X : World, Ext w X → Calls Tryz.prog 18 #[.agg #[.int .i64 W, .int .i64 H, .slice aw wl.length cw, .slice ak kl.length ck], .int .i64 cell] X fun e w' => e = .returned (.tuple #[.int .i64 k, .int .i64 q]) ∧ Ext X w'))) from fun h => by
    rw [hg, Bool.or_eq_false_iff, decide_eq_false_iff_not, decide_eq_false_iff_not] at h
    exact eight W H aw ak cw ck wl kl cell w (hw (by omega)) (hk (by omega)))
  generalize wl.length = nw at *
  generalize kl.length = nk at *
  clear hw hk hg
  obtain ⟨w1, hw1⟩ : ∃ w1, w1 = w.alloc (.cells #[.int .i64 W, .int .i64 H, .slice aw nw cw, .slice ak nk ck] 24) := ⟨_, rfl⟩
  have HE := Lib.hid (show Ext w w1 from by rw [hw1]; exact (Ext.refl w).alloc _)
  have B0 := Lib.hid (show w1.heap[w.heap.size]? = some (.cells #[.int .i64 W, .int .i64 H, .slice aw nw cw, .slice ak nk ck] 24 (0, 0)) from by rw [hw1]; exact heap_alloc_new w _)
  go_enter Tryz.func3, Tryz.ntmps3
  obtain ⟨z0, z1, z2, z3⟩ := cells4 B0.out
  go_upto_region 1 with fail
  rw [← hw1]
  clear hw1 z0 z1 z2 z3
  obtain ⟨z0, z1, z2, z3⟩ := cells4 B0.out
  go_wp2_with fail
  refine (HG.out _).mono ?_
  rintro e w2 ⟨rfl, h2⟩
  have HE := Lib.hid (HE.out.trans h2); have B0 := Lib.hid (block_ext h2 B0.out)
  clear h2 z0 z1 z2 z3
  cases g
  · obtain ⟨o, hop, hall⟩ := H8.out rfl
    have HOP := Lib.hid hop; have HA := Lib.hid hall
    clear hop hall H8 HG
    obtain ⟨z0, z1, z2, z3⟩ := cells4 B0.out
    go_wp2_with fail
    refine (HOP.out _ HE.out).mono ?_
    rintro e w3 ⟨rfl, h2⟩
    have HE := Lib.hid (HE.out.trans h2); have B0 := Lib.hid (block_ext h2 B0.out)
    clear h2 z0 z1 z2 z3
    cases o
    · obtain ⟨f, r, k, q, s, l, h1, h2, h3, h4, h5, h6, h7, h8⟩ := HA.out rfl
      have H1 := Lib.hid h1; have H2 := Lib.hid h2; have H3 := Lib.hid h3; have H4 := Lib.hid h4; have H5 := Lib.hid h5; have H6 := Lib.hid h6; have H7 := Lib.hid h7; have H8 := Lib.hid h8
      clear h1 h2 h3 h4 h5 h6 h7 h8 HA HOP
      obtain ⟨z0, z1, z2, z3⟩ := cells4 B0.out
      go_wp2_with fail
      refine (H1.out _ HE.out).mono ?_
      rintro e w4 ⟨rfl, h2⟩
      have HE := Lib.hid (HE.out.trans h2); have B0 := Lib.hid (block_ext h2 B0.out)
      clear h2 z0 z1 z2 z3
      obtain ⟨z0, z1, z2, z3⟩ := cells4 B0.out
      go_wp2_with fail
      refine (H2.out _ HE.out).mono ?_
      rintro e w5 ⟨rfl, h2⟩
      have HE := Lib.hid (HE.out.trans h2); have B0 := Lib.hid (block_ext h2 B0.out)
      clear h2 z0 z1 z2 z3
      obtain ⟨z0, z1, z2, z3⟩ := cells4 B0.out
      go_wp2_with fail
      refine (H3.out _ HE.out).mono ?_
      rintro e w6 ⟨u0, rfl, hr1, h2⟩
      have HE := Lib.hid (HE.out.trans h2); have B0 := Lib.hid (block_ext h2 B0.out)
      obtain ⟨-, ua0, uc0, rfl⟩ := hr1.shape
      have R0 := Lib.hid hr1
      clear hr1
      clear h2 z0 z1 z2 z3
      obtain ⟨z0, z1, z2, z3⟩ := cells4 B0.out
      go_wp2_with fail
      refine (H4.out _ HE.out).mono ?_
      rintro e w7 ⟨u1, rfl, hr1, h2⟩
      have HE := Lib.hid (HE.out.trans h2); have B0 := Lib.hid (block_ext h2 B0.out)
      have R0 := Lib.hid (R0.out.ext h2)
      obtain ⟨-, ua1, uc1, rfl⟩ := hr1.shape
      have R1 := Lib.hid hr1
      clear hr1
      clear h2 z0 z1 z2 z3
      obtain ⟨z0, z1, z2, z3⟩ := cells4 B0.out
      go_wp2_with fail
      refine (H5.out _ HE.out).mono ?_
      rintro e w8 ⟨u2, rfl, hr1, h2⟩
      have HE := Lib.hid (HE.out.trans h2); have B0 := Lib.hid (block_ext h2 B0.out)
      have R0 := Lib.hid (R0.out.ext h2)
      have R1 := Lib.hid (R1.out.ext h2)
      obtain ⟨-, ua2, uc2, rfl⟩ := hr1.shape
      have R2 := Lib.hid hr1
      clear hr1
      clear h2 z0 z1 z2 z3
      obtain ⟨z0, z1, z2, z3⟩ := cells4 B0.out
      go_wp2_with fail
      refine (H6.out _ HE.out).mono ?_
      rintro e w9 ⟨u3, rfl, hr1, h2⟩
      have HE := Lib.hid (HE.out.trans h2); have B0 := Lib.hid (block_ext h2 B0.out)
      have R0 := Lib.hid (R0.out.ext h2)
      have R1 := Lib.hid (R1.out.ext h2)
      have R2 := Lib.hid (R2.out.ext h2)
      obtain ⟨-, ua3, uc3, rfl⟩ := hr1.shape
      have R3 := Lib.hid hr1
      clear hr1
      clear h2 z0 z1 z2 z3
      obtain ⟨z0, z1, z2, z3⟩ := cells4 B0.out
      go_wp2_with fail
      refine (H7.out _ HE.out).mono ?_
      rintro e w10 ⟨rfl, h2⟩
      have HE := Lib.hid (HE.out.trans h2); have B0 := Lib.hid (block_ext h2 B0.out)
      have R0 := Lib.hid (R0.out.ext h2)
      have R1 := Lib.hid (R1.out.ext h2)
      have R2 := Lib.hid (R2.out.ext h2)
      have R3 := Lib.hid (R3.out.ext h2)
      clear h2 z0 z1 z2 z3
      obtain ⟨z0, z1, z2, z3⟩ := cells4 B0.out
      go_wp2_with fail
      refine (H8.out _ HE.out).mono ?_
      rintro e w11 ⟨rfl, h2⟩
      have HE := Lib.hid (HE.out.trans h2); have B0 := Lib.hid (block_ext h2 B0.out)
      have R0 := Lib.hid (R0.out.ext h2)
      have R1 := Lib.hid (R1.out.ext h2)
      have R2 := Lib.hid (R2.out.ext h2)
      have R3 := Lib.hid (R3.out.ext h2)
      clear h2 z0 z1 z2 z3
      have I1 := Lib.hid (ints_c _ _ s s w11 R0.out R1.out)
      rw [show decide (s = s) = true from decide_eq_true rfl] at I1
      go_wp2_with fail
      refine (I1.out).mono ?_
      rintro e w12 ⟨rfl, h2⟩
      have HE := Lib.hid (HE.out.trans h2)
      have I2 := Lib.hid (ints_c _ _ l l w12 (R2.out.ext h2) (R3.out.ext h2))
      rw [show decide (l = l) = true from decide_eq_true rfl] at I2
      clear h2
      go_wp2_with fail
      refine (I2.out).mono ?_
      rintro e w13 ⟨rfl, h2⟩
      have HE := Lib.hid (HE.out.trans h2)
      clear h2
      go_wp2_with fail
      refine (works_c _).mono ?_
      rintro e wz ⟨rfl, hz⟩
      go_wp2
      go_ret
      exact ⟨rfl, HE.out.trans hz⟩
    · skip
      go_wp2_with fail
      refine (works_c _).mono ?_
      rintro e wz ⟨rfl, hz⟩
      go_wp2
      go_ret
      exact ⟨rfl, HE.out.trans hz⟩
  · skip
    go_wp2_with fail
    refine (works_c _).mono ?_
    rintro e wz ⟨rfl, hz⟩
    go_wp2
    go_ret
    exact ⟨rfl, HE.out.trans hz⟩
end Go.Proofs.YtppjnpempgpkaaaGreat
