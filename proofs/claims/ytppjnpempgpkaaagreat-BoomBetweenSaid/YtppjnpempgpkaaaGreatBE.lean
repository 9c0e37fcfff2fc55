/- best, by its contract. -/
import Derived.Test.YtppjnpempgpkaaaGreatSO
import Derived.Test.YtppjnpempgpkaaaGreatRA
import Derived.Test.YtppjnpempgpkaaaGreatJ3
import Derived.Test.YtppjnpempgpkaaaGreatPG
import Derived.Test.YtppjnpempgpkaaaGreatH7
import Derived.Test.YtppjnpempgpkaaaGreatH6
import Derived.Test.YtppjnpempgpkaaaGreatN3
import Derived.Test.YtppjnpempgpkaaaGreatK1
namespace Go.Proofs.YtppjnpempgpkaaaGreat
open Go.RowKit Go.Shelf
set_option linter.unusedVariables false
set_option linter.unusedSimpArgs false
attribute [local go_sem] Oper.semAt_some

theorem small_at (W H nw cw nk ck : Nat) (aw ak : Option Addr) (wn kn : List Nat) (hv : VP W H wn kn) (w : World) (hw : Reads w (.slice aw nw cw) (natI wn)) (hk : Reads w (.slice ak nk ck) (natI kn)) :
    Calls Tryz.prog 13 #[.agg #[.int .i64 (W : Int), .int .i64 (H : Int), .slice aw nw cw, .slice ak nk ck]] w fun e w' => ∃ a n c, e = .returned (.tuple #[.slice a n c, .int .i64 0]) ∧ Reads w' (.slice a n c) (natI (smL hv)) ∧ Ext w w' := by
  refine (small_ok W H nw cw nk ck aw ak wn kn hv w hw hk).mono fun e w' ⟨u, h1, h2, h3⟩ => ?_
  obtain ⟨_, a, c, rfl⟩ := h2.shape
  exact ⟨a, _, c, h1, h2, h3⟩
theorem large_at (W H nw cw nk ck : Nat) (aw ak : Option Addr) (wn kn : List Nat) (hv : VP W H wn kn) (w : World) (hw : Reads w (.slice aw nw cw) (natI wn)) (hk : Reads w (.slice ak nk ck) (natI kn)) :
    Calls Tryz.prog 15 #[.agg #[.int .i64 (W : Int), .int .i64 (H : Int), .slice aw nw cw, .slice ak nk ck]] w fun e w' => ∃ a n c, e = .returned (.tuple #[.slice a n c, .int .i64 0]) ∧ Reads w' (.slice a n c) (natI (lgL hv)) ∧ Ext w w' := by
  refine (large_ok W H nw cw nk ck aw ak wn kn hv w hw hk).mono fun e w' ⟨u, h1, h2, h3⟩ => ?_
  obtain ⟨_, a, c, rfl⟩ := h2.shape
  exact ⟨a, _, c, h1, h2, h3⟩
theorem rsticks_at (W H nw cw nk ck : Nat) (aw ak : Option Addr) (wn kn : List Nat) (hv : VP W H wn kn) (ns : List Nat) (hl : Lst (W * H) ns) (he : encB wn kn ns = true) (n : Nat) (hn : stk (gp hv) (memL ns) = n) (v : Value) (w : World) (hw : Reads w (.slice aw nw cw) (natI wn)) (hk : Reads w (.slice ak nk ck) (natI kn)) (hx : Reads w v (natI ns)) :
    Calls Tryz.prog 55 #[.agg #[.int .i64 (W : Int), .int .i64 (H : Int), .slice aw nw cw, .slice ak nk ck], v] w fun e w' => e = .returned (.tuple #[.int .i64 (n : Int), .int .i64 0]) ∧ Ext w w' := by
  have h := rsticks_ok W H nw cw nk ck aw ak wn kn hv v w hw hk ns hl hx
  rw [if_pos he, if_pos he, hn] at h
  exact h
/-- The fewest sticks of a valid pond. -/
def fewN {W H : Nat} {wn kn : List Nat} (hv : VP W H wn kn) : Nat := stk (gp hv) (smallB (gp hv) 64 wn (memL kn))
set_option maxRecDepth 100000 in
set_option maxHeartbeats 4000000 in
theorem best_c (W H nw cw nk ck : Nat) (aw ak : Option Addr) (wn kn : List Nat) (hv : VP W H wn kn) (w : World) (hw : Reads w (.slice aw nw cw) (natI wn)) (hk : Reads w (.slice ak nk ck) (natI kn)) :
    Calls Tryz.prog 22 #[.agg #[.int .i64 (W : Int), .int .i64 (H : Int), .slice aw nw cw, .slice ak nk ck]] w fun e w' => ∃ a n c b m d, e = .returned (.tuple #[.int .i64 (fewN hv : Int), .slice a n c, .slice b m d, .bool true]) ∧ Reads w' (.slice a n c) (natI (smL hv)) ∧ Reads w' (.slice b m d) (natI (lgL hv)) ∧ Ext w w' := by
  have H1 := Lib.hid (fun (X : World) (h : Ext w X) => fewest_ok W H nw cw nk ck aw ak wn kn hv X (hw.ext h) (hk.ext h))
  have H2 := Lib.hid (fun (X : World) (h : Ext w X) => small_at W H nw cw nk ck aw ak wn kn hv X (hw.ext h) (hk.ext h))
  have H3 := Lib.hid (fun (X : World) (h : Ext w X) => large_at W H nw cw nk ck aw ak wn kn hv X (hw.ext h) (hk.ext h))
  have H4 := Lib.hid (fun (X : World) (v : Value) (h : Ext w X) => rsticks_at W H nw cw nk ck aw ak wn kn hv _ (sm_lst hv) (sm_enc hv) _ (sm_stk hv) v X (hw.ext h) (hk.ext h))
  have H5 := Lib.hid (fun (X : World) (v : Value) (h : Ext w X) => rsticks_at W H nw cw nk ck aw ak wn kn hv _ (lg_lst hv) (lg_enc hv) _ (lg_stk hv) v X (hw.ext h) (hk.ext h))
  obtain ⟨N, hN⟩ : ∃ N, N = fewN hv := ⟨_, rfl⟩
  rw [show stk (gp hv) (smallB (gp hv) 64 wn (memL kn)) = N from hN.symm] at H1 H4 H5
  rw [← hN]
  generalize smL hv = s1 at *
  generalize lgL hv = s2 at *
  clear hw hk hN
  obtain ⟨w1, hw1⟩ : ∃ w1, w1 = w.alloc (.cells #[.int .i64 (W : Int), .int .i64 (H : Int), .slice aw nw cw, .slice ak nk ck] 24) := ⟨_, rfl⟩
  have HE := Lib.hid (show Ext w w1 from by rw [hw1]; exact (Ext.refl w).alloc _)
  have B0 := Lib.hid (show w1.heap[w.heap.size]? = some (.cells #[.int .i64 (W : Int), .int .i64 (H : Int), .slice aw nw cw, .slice ak nk ck] 24 (0, 0)) from by rw [hw1]; exact heap_alloc_new w _)
  go_enter Tryz.func22, Tryz.ntmps22
  obtain ⟨z0, z1, z2, z3⟩ := cells4 B0.out
  go_upto_region 1 with fail
  rw [← hw1]
  clear hw1 z0 z1 z2 z3
  obtain ⟨z0, z1, z2, z3⟩ := cells4 B0.out
  go_wp2_with fail
  refine (H1.out _ HE.out).mono ?_
  rintro e w2 ⟨rfl, h2⟩
  have HE := Lib.hid (HE.out.trans h2); have B0 := Lib.hid (block_ext h2 B0.out)
  clear h2 z0 z1 z2 z3
  obtain ⟨z0, z1, z2, z3⟩ := cells4 B0.out
  go_wp2_with fail
  refine (H2.out _ HE.out).mono ?_
  rintro e w3 ⟨a, n, c, rfl, hr1, h2⟩
  have HE := Lib.hid (HE.out.trans h2); have B0 := Lib.hid (block_ext h2 B0.out)
  have HS := Lib.hid hr1
  clear hr1
  clear h2 z0 z1 z2 z3
  obtain ⟨z0, z1, z2, z3⟩ := cells4 B0.out
  go_wp2_with fail
  refine (H3.out _ HE.out).mono ?_
  rintro e w4 ⟨b, m, d, rfl, hr1, h2⟩
  have HE := Lib.hid (HE.out.trans h2); have B0 := Lib.hid (block_ext h2 B0.out)
  have HS := Lib.hid (HS.out.ext h2)
  have HL := Lib.hid hr1
  clear hr1
  clear h2 z0 z1 z2 z3
  obtain ⟨z0, z1, z2, z3⟩ := cells4 B0.out
  go_wp2_with fail
  refine (H4.out _ _ HE.out HS.out).mono ?_
  rintro e w5 ⟨rfl, h2⟩
  have HE := Lib.hid (HE.out.trans h2); have B0 := Lib.hid (block_ext h2 B0.out)
  have HS := Lib.hid (HS.out.ext h2)
  have HL := Lib.hid (HL.out.ext h2)
  clear h2 z0 z1 z2 z3
  obtain ⟨z0, z1, z2, z3⟩ := cells4 B0.out
  go_wp2_with fail
  refine (H5.out _ _ HE.out HL.out).mono ?_
  rintro e w6 ⟨rfl, h2⟩
  have HE := Lib.hid (HE.out.trans h2); have B0 := Lib.hid (block_ext h2 B0.out)
  have HS := Lib.hid (HS.out.ext h2)
  have HL := Lib.hid (HL.out.ext h2)
  clear h2 z0 z1 z2 z3
  go_wp2
  refine bodyPost_ret (by first | (simp [results, Tryz.results22, go_sem]; done) | (simp [results, Tryz.results22, go_sem]; rfl)) rfl ?_
  exact ⟨_, _, _, _, _, _, rfl, HS.out, HL.out, HE.out⟩
end Go.Proofs.YtppjnpempgpkaaaGreat
