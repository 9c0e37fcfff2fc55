/- BoomProved, by its contract. -/
import Derived.Test.YtppjnpempgpkaaaGreatS6
import Derived.Test.YtppjnpempgpkaaaGreatFI
import Derived.Test.YtppjnpempgpkaaaGreatBE
import Derived.Test.YtppjnpempgpkaaaGreatLF
import Derived.Test.YtppjnpempgpkaaaGreatWQ
import Derived.Test.YtppjnpempgpkaaaGreatH7
import Derived.Test.YtppjnpempgpkaaaGreatH6
import Derived.Test.YtppjnpempgpkaaaGreatN3
import Derived.Test.YtppjnpempgpkaaaGreatK1
namespace Go.Proofs.YtppjnpempgpkaaaGreat
open Go.RowKit Go.Shelf
set_option linter.unusedVariables false
set_option linter.unusedSimpArgs false
attribute [local go_sem] Oper.semAt_some

theorem given_any (W H nw cw nk ck : Nat) (aw ak : Option Addr) (wn kn : List Nat) (hv : VP W H wn kn) (v : Value) (w : World) (hw : Reads w (.slice aw nw cw) (natI wn)) (hk : Reads w (.slice ak nk ck) (natI kn)) (ls : List WI) (hr : ReadsW w v ls) (h4k : ls.length ≤ 4000) :
    ∃ b r : Int, (r = 0 → b ≤ (fewN hv : Int)) ∧ ∀ X : World, Ext w X → Calls Tryz.prog 24 #[.agg #[.int .i64 (W : Int), .int .i64 (H : Int), .slice aw nw cw, .slice ak nk ck], v] X fun e w' => e = .returned (.tuple #[.int .i64 b, .int .i64 r]) ∧ Ext X w' := by
  refine ⟨_, _, fun h => ?_, fun X h => checkWays_ok W H nw cw nk ck aw ak wn kn hv v X (hw.ext h) (hk.ext h) ls (hr.ext h) h4k⟩
  rw [if_pos h]
  have h1 := given_le hv h (u := memL (smL hv)) (enc_mem (sm_enc hv))
  rw [sm_stk hv] at h1
  unfold fewN
  omega
theorem mine_all (W H nw cw nk ck : Nat) (aw ak : Option Addr) (wn kn : List Nat) (hv : VP W H wn kn) (w : World) (hw : Reads w (.slice aw nw cw) (natI wn)) (hk : Reads w (.slice ak nk ck) (natI kn)) :
    Calls Tryz.prog 23 #[.agg #[.int .i64 (W : Int), .int .i64 (H : Int), .slice aw nw cw, .slice ak nk ck]] w fun e w' => ∃ (u : Option Addr) (c : Nat), e = .returned (.tuple #[.slice u (fewN hv) c, .int .i64 0]) ∧ Ext w w' ∧ ∀ X, Ext w' X → (Calls Tryz.prog 24 #[.agg #[.int .i64 (W : Int), .int .i64 (H : Int), .slice aw nw cw, .slice ak nk ck], .slice u (fewN hv) c] X fun e2 w2 => e2 = .returned (.tuple #[.int .i64 (fewN hv : Int), .int .i64 0]) ∧ Ext X w2) ∧ Calls Tryz.prog 25 #[.agg #[.int .i64 (W : Int), .int .i64 (H : Int), .slice aw nw cw, .slice ak nk ck], .slice u (fewN hv) c] X fun e2 w2 => e2 = .returned (.tuple #[.int .i64 (fewN hv : Int), .int .i64 0]) ∧ Ext X w2 := by
  refine (ways_ok W H nw cw nk ck aw ak wn kn hv w hw hk).mono fun e w' ⟨u, h1, h2, h3⟩ => ?_
  obtain ⟨f1, f2, f3⟩ := ways_fine hv
  obtain ⟨_, a, c, rfl⟩ := h2.shape
  rw [f2] at h1 h2
  refine ⟨a, c, h1, h3, fun X hX => ?_⟩
  have a1 := checkWays_ok W H nw cw nk ck aw ak wn kn hv _ X (hw.ext (h3.trans hX)) (hk.ext (h3.trans hX)) _ (h2.ext hX) (Nat.le_trans f3 (by decide))
  have a2 := rcheckWays_ok W H nw cw nk ck aw ak wn kn hv _ X (hw.ext (h3.trans hX)) (hk.ext (h3.trans hX)) _ (h2.ext hX) (Nat.le_trans f3 (by decide))
  rw [if_pos f1, f1, f2] at a1 a2
  exact ⟨a1, a2⟩
set_option maxRecDepth 100000 in
set_option maxHeartbeats 4000000 in
theorem proved_c (W H : Int) (aw ak : Option Addr) (cw ck : Nat) (wl kl : List Int) (bits : Nat) (hbits : bits < 18446744073709551616) (v : Value) (ls : List WI) (w : World) (hw : wl.length ≤ 5000 → Reads w (.slice aw wl.length cw) wl) (hk : kl.length ≤ 5000 → Reads w (.slice ak kl.length ck) kl) (hl : LensW w v ls) (hr : ls.length ≤ 5000 → (∀ x ∈ ls, x.1.length ≤ 5000) → ReadsW w v ls) :
    Calls Tryz.prog 4 #[.agg #[.int .i64 W, .int .i64 H, .slice aw wl.length cw, .slice ak kl.length ck], .int .u64 (bits : Int), v] w fun e w' => e = .returned (.bool true) ∧ Ext w w' := by
  obtain ⟨q2, hq2⟩ : ∃ q, q = farB ls := ⟨_, rfl⟩
  have HFA := Lib.hid (show ∀ X : World, Ext w X → Calls Tryz.prog 21 #[v] X fun e w' => e = .returned (.bool q2) ∧ Ext X w' from fun X h => by rw [hq2]; exact far_any v ls X (hl.ext h))
  have HQ2 := Lib.hid hq2; have HHR := Lib.hid hr; have HBT := Lib.hid hbits
  clear hq2 hl hr hbits
  obtain ⟨b, hb⟩ : ∃ b, b = fineB W H wl kl := ⟨_, rfl⟩
  have HF := Lib.hid (fun (X : World) (h : Ext w X) => fine_c W H aw ak cw ck wl kl X (fun h5 => (hw h5).ext h) (fun h5 => (hk h5).ext h))
  rw [← hb] at HF
  obtain ⟨nw, hnw⟩ : ∃ n, n = wl.length := ⟨_, rfl⟩
  obtain ⟨nk, hnk⟩ : ∃ n, n = kl.length := ⟨_, rfl⟩
  rw [← hnw] at HF hw ⊢
  rw [← hnk] at HF hk ⊢
  obtain ⟨w1, hw1⟩ : ∃ w1, w1 = w.alloc (.cells #[.int .i64 W, .int .i64 H, .slice aw nw cw, .slice ak nk ck] 24) := ⟨_, rfl⟩
  have HE := Lib.hid (show Ext w w1 from by rw [hw1]; exact (Ext.refl w).alloc _)
  have B0 := Lib.hid (show w1.heap[w.heap.size]? = some (.cells #[.int .i64 W, .int .i64 H, .slice aw nw cw, .slice ak nk ck] 24 (0, 0)) from by rw [hw1]; exact heap_alloc_new w _)
  have HB := Lib.hid hb; have HNW := Lib.hid hnw; have HNK := Lib.hid hnk; have HHW := Lib.hid hw; have HHK := Lib.hid hk
  clear hb hnw hnk hw hk
  obtain ⟨z0, z1, z2, z3⟩ := cells4 B0.out
  go_enter Tryz.func4, Tryz.ntmps4
  go_upto_region 1 with fail
  rw [← hw1]
  clear hw1
  go_wp2_with fail
  refine (HF.out _ HE.out).mono ?_
  rintro e w2 ⟨rfl, h2⟩
  have HE := Lib.hid (HE.out.trans h2); have B0 := Lib.hid (block_ext h2 B0.out)
  clear h2 z0 z1 z2 z3
  cases b
  · skip
    go_wp2_with fail
    refine (works_c _).mono ?_
    rintro e wz ⟨rfl, hz⟩
    go_wp2
    go_ret
    exact ⟨rfl, HE.out.trans hz⟩
  · go_wp2_with fail
    refine (HFA.out _ HE.out).mono ?_
    rintro e w3 ⟨rfl, h2⟩
    have HE := Lib.hid (HE.out.trans h2); have B0 := Lib.hid (block_ext h2 B0.out)
    clear h2
    cases q2
    · skip
      have hfb := HB.out.symm
      unfold fineB at hfb
      rw [Bool.and_eq_true, Bool.not_eq_true', Bool.or_eq_false_iff, decide_eq_false_iff_not, decide_eq_false_iff_not, decide_eq_true_iff] at hfb
      obtain ⟨⟨h7w, h7k⟩, h0⟩ := hfb
      obtain ⟨W, H, wn, kn, ⟨rfl, rfl⟩, ⟨rfl, rfl⟩, hv⟩ := chkP_ok.1 h0
      clear h0
      have hnw := HNW.out; have hnk := HNK.out
      have hw := HHW.out (by omega); have hk := HHK.out (by omega)
      clear HF HB HNW HNK HHW HHK hnw hnk h7w h7k
      obtain ⟨h8, h9⟩ := far_small HQ2.out.symm
      have hr := HHR.out (by omega) (fun x hx => by have := h9 x hx; omega)
      clear HFA HQ2 HHR
      obtain ⟨gb, gr, hg1, hg2⟩ := given_any W H nw cw nk ck aw ak wn kn hv v w hw hk ls hr (by omega)
      have H1 := Lib.hid (fun (X : World) (h : Ext w X) => best_c W H nw cw nk ck aw ak wn kn hv X (hw.ext h) (hk.ext h))
      have H2 := Lib.hid (fun (X : World) (h : Ext w X) => mine_all W H nw cw nk ck aw ak wn kn hv X (hw.ext h) (hk.ext h))
      have H3 := Lib.hid (fun (X : World) (h : Ext w X) => water_r W H nw cw nk ck aw ak wn kn hv bits HBT.out X (hw.ext h) (hk.ext h))
      have H4 := Lib.hid (fun (X : World) (v : Value) (h : Ext w X) => sticks_w W H nw cw nk ck aw ak wn kn hv bits v X (hw.ext h) (hk.ext h))
      have H5 := Lib.hid (fun (X : World) (v : Value) (hx : Reads X v (natI (watN W H wn kn bits (W * H)))) => rsticksOf_c W H nw cw nk ck aw ak _ v X ⟨hv.w1, hv.w8⟩ ⟨hv.h1, hv.h8⟩ hx (by have := (wat_lst W H wn kn bits).len; have := hv.n64; omega) (wat_lst W H wn kn bits).lt)
      rw [out_stk hv (wat_lst W H wn kn bits)] at H5
      have H6 := Lib.hid hg2
      have hle : fewN hv ≤ stk (gp hv) (memL (watN W H wn kn bits (W * H))) := hv.pond.best.le _ (enc_mem (wat_enc hv bits))
      have hn256 := stk_few hv (smallB (gp hv) 64 wn (memL kn))
      rw [show stk (gp hv) (smallB (gp hv) 64 wn (memL kn)) = fewN hv from rfl] at hn256
      generalize stk (gp hv) (memL (watN W H wn kn bits (W * H))) = sw at *
      generalize watN W H wn kn bits (W * H) = lw at *
      generalize fewN hv = N at *
      generalize smL hv = s1 at *
      generalize lgL hv = s2 at *
      have hN : (N : Int) ≤ (sw : Int) := by omega
      have hN2 : ¬ (256 : Int) < (N : Int) := by omega
      have hN3 : ¬ (sw : Int) < (N : Int) := by omega
      have HG := Lib.hid hg1
      clear hw hk hr hg1 hg2 hle hn256 h8 h9
      obtain ⟨z0, z1, z2, z3⟩ := cells4 B0.out
      go_wp2_with fail
      refine (H1.out _ HE.out).mono ?_
      rintro e w4 ⟨sa, sn, sc, la, ln, lc, rfl, -, -, h2⟩
      have HE := Lib.hid (HE.out.trans h2); have B0 := Lib.hid (block_ext h2 B0.out)
      clear h2 z0 z1 z2 z3
      obtain ⟨z0, z1, z2, z3⟩ := cells4 B0.out
      go_wp2_with fail
      refine (H2.out _ HE.out).mono ?_
      rintro e w5 ⟨ua, uc, rfl, h2, h7⟩
      have H7 := Lib.hid h7; have HE5 := Lib.hid (Ext.refl w5)
      clear h7
      have HE := Lib.hid (HE.out.trans h2); have B0 := Lib.hid (block_ext h2 B0.out)
      clear h2 z0 z1 z2 z3
      obtain ⟨z0, z1, z2, z3⟩ := cells4 B0.out
      go_wp2_with fail
      refine ((H7.out _ HE5.out).1).mono ?_
      rintro e w6 ⟨rfl, h2⟩
      have HE := Lib.hid (HE.out.trans h2); have B0 := Lib.hid (block_ext h2 B0.out)
      have HE5 := Lib.hid (HE5.out.trans h2)
      clear h2 z0 z1 z2 z3
      obtain ⟨z0, z1, z2, z3⟩ := cells4 B0.out
      go_wp2_with fail
      refine ((H7.out _ HE5.out).2).mono ?_
      rintro e w7 ⟨rfl, h2⟩
      have HE := Lib.hid (HE.out.trans h2); have B0 := Lib.hid (block_ext h2 B0.out)
      have HE5 := Lib.hid (HE5.out.trans h2)
      clear h2 z0 z1 z2 z3
      obtain ⟨z0, z1, z2, z3⟩ := cells4 B0.out
      go_wp2_with fail
      refine (H3.out _ HE.out).mono ?_
      rintro e w8 ⟨xa, xn, xc, rfl, hr1, h2⟩
      have HE := Lib.hid (HE.out.trans h2); have B0 := Lib.hid (block_ext h2 B0.out)
      have HE5 := Lib.hid (HE5.out.trans h2)
      have HX := Lib.hid hr1
      clear hr1
      clear h2 z0 z1 z2 z3
      obtain ⟨z0, z1, z2, z3⟩ := cells4 B0.out
      go_wp2_with fail
      refine (H4.out _ _ HE.out HX.out).mono ?_
      rintro e w9 ⟨rfl, h2⟩
      have HE := Lib.hid (HE.out.trans h2); have B0 := Lib.hid (block_ext h2 B0.out)
      have HX := Lib.hid (HX.out.ext h2)
      have HE5 := Lib.hid (HE5.out.trans h2)
      clear h2 z0 z1 z2 z3
      obtain ⟨z0, z1, z2, z3⟩ := cells4 B0.out
      go_wp2_with fail
      refine (H6.out _ HE.out).mono ?_
      rintro e w10 ⟨rfl, h2⟩
      have HE := Lib.hid (HE.out.trans h2); have B0 := Lib.hid (block_ext h2 B0.out)
      have HX := Lib.hid (HX.out.ext h2)
      have HE5 := Lib.hid (HE5.out.trans h2)
      clear h2 z0 z1 z2 z3
      obtain ⟨z0, z1, z2, z3⟩ := cells4 B0.out
      go_wp2_with fail
      refine (H5.out _ _ HX.out).mono ?_
      rintro e w11 ⟨rfl, h2⟩
      have HE := Lib.hid (HE.out.trans h2); have B0 := Lib.hid (block_ext h2 B0.out)
      have HX := Lib.hid (HX.out.ext h2)
      have HE5 := Lib.hid (HE5.out.trans h2)
      clear h2 z0 z1 z2 z3
      by_cases hgr : gr = 0
      · have hgb := HG.out hgr
        subst hgr
        go_wp2_with fail
        refine (works_c _).mono ?_
        rintro e wz ⟨rfl, hz⟩
        go_wp2
        go_ret
        exact ⟨rfl, HE.out.trans hz⟩
      · have hgr2 : (gr != 0) = true := by simp [hgr]
        have hgr3 : decide (gr = 0) = false := decide_eq_false hgr
        go_wp2_with fail
        refine (works_c _).mono ?_
        rintro e wz ⟨rfl, hz⟩
        go_wp2
        go_ret
        exact ⟨rfl, HE.out.trans hz⟩
    · skip
      go_wp2_with fail
      refine (works_c _).mono ?_
      rintro e wz ⟨rfl, hz⟩
      go_wp2
      go_ret
      exact ⟨rfl, HE.out.trans hz⟩
end Go.Proofs.YtppjnpempgpkaaaGreat
