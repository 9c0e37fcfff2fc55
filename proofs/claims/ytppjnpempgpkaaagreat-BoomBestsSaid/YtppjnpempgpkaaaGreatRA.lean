/- The reference: Next, dirTo, by their contracts. The reference: Encloses, SticksOf, by their contracts. The reference: SticksOf, Sticks, by their contracts. The reference: Sticks, by its contract. -/
import Derived.Test.YtppjnpempgpkaaaGreatR2
import Derived.Test.YtppjnpempgpkaaaGreatH7
import Derived.Test.YtppjnpempgpkaaaGreatH6
import Derived.Test.YtppjnpempgpkaaaGreatN3
import Derived.Test.YtppjnpempgpkaaaGreatK1
import Derived.Test.YtppjnpempgpkaaaGreatJ3
namespace Go.Proofs.YtppjnpempgpkaaaGreat
open Go.RowKit Go.Shelf
set_option linter.unusedVariables false
set_option linter.unusedSimpArgs false
attribute [local go_sem] Oper.semAt_some

theorem nxy_if (W H : Nat) (X Y : Int) : nxy W H X Y = if (0 ≤ X ∧ X < W) ∧ 0 ≤ Y ∧ Y < H then Y * W + X else -1 := by
  unfold nxy
  simp only [inn_one]
  by_cases h : (0 ≤ X ∧ X ≤ (W : Int) - 1) ∧ 0 ≤ Y ∧ Y ≤ (H : Int) - 1
  · rw [if_pos h, if_pos (by omega)]
  · rw [if_neg h, if_neg (by omega)]
set_option maxRecDepth 100000 in
set_option maxHeartbeats 4000000 in
theorem next_c (W H nw cw nk ck : Nat) (aw ak : Option Addr) (c k : Nat) (w : World) (hW : 1 ≤ W ∧ W ≤ 8) (hH : 1 ≤ H ∧ H ≤ 8) (hc : c < W * H) (hk : k < 4) :
    Calls Tryz.prog 66 #[.agg #[.int .i64 (W : Int), .int .i64 (H : Int), .slice aw nw cw, .slice ak nk ck], .int .i64 (c : Int), .int .i64 (k : Int)] w fun e w' => e = .returned (.int .i64 (nx W H c k)) ∧ Ext w w' := by
  have hm : W * H ≤ 64 := Nat.mul_le_mul hW.2 hH.2
  rw [nx_xy hc hk]
  have h1 : c % W < W := Nat.mod_lt _ hW.1
  have h2 : c / W < H := by rw [Nat.div_lt_iff_lt_mul hW.1, Nat.mul_comm]; exact hc
  have et : (c : Int).tmod (W : Int) = ((c % W : Nat) : Int) := (Int.ofNat_tmod c W).symm
  have ed : (c : Int).tdiv (W : Int) = ((c / W : Nat) : Int) := (Int.ofNat_tdiv c W).symm
  obtain ⟨x, hx⟩ : ∃ x : Nat, x = c % W := ⟨_, rfl⟩
  obtain ⟨y, hy⟩ : ∃ y : Nat, y = c / W := ⟨_, rfl⟩
  rw [← hx] at et h1 ⊢
  rw [← hy] at ed h2 ⊢
  clear hx hy
  have hWz : ((W : Int) = 0) = False := by simp; omega
  have hWz2 : ¬ (W : Int) = 0 := by omega
  have hWz3 : ¬ W = 0 := by omega
  have wx : IntKind.i64.wrap (x : Int) = (x : Int) := wrapi64 _ (by omega) (by omega)
  have wy : IntKind.i64.wrap (y : Int) = (y : Int) := wrapi64 _ (by omega) (by omega)
  have wx1 : IntKind.i64.wrap ((x : Int) + 1) = (x : Int) + 1 := wrapi64 _ (by omega) (by omega)
  have wy1 : IntKind.i64.wrap ((y : Int) + 1) = (y : Int) + 1 := wrapi64 _ (by omega) (by omega)
  have wx2 : IntKind.i64.wrap ((x : Int) - 1) = (x : Int) - 1 := wrapi64 _ (by omega) (by omega)
  have wy2 : IntKind.i64.wrap ((y : Int) - 1) = (y : Int) - 1 := wrapi64 _ (by omega) (by omega)
  have E0 := Lib.hid ((Ext.refl w).alloc (.cells #[.int .i64 (W : Int), .int .i64 (H : Int), .slice aw nw cw, .slice ak nk ck] 24))
  have hmul : ∀ v : Int, -1 ≤ v → v ≤ 9 → -8 ≤ v * (W : Int) ∧ v * (W : Int) ≤ 72 := fun v h1 h2 => by
    have a1 : (W : Int) = 1 ∨ (W : Int) = 2 ∨ (W : Int) = 3 ∨ (W : Int) = 4 ∨ (W : Int) = 5 ∨ (W : Int) = 6 ∨ (W : Int) = 7 ∨ (W : Int) = 8 := by omega
    rcases a1 with e | e | e | e | e | e | e | e <;> rw [e] <;> omega
  have hvx : -1 ≤ mx k (x : Int) ∧ mx k (x : Int) ≤ 9 := by unfold mx; split <;> (try split) <;> omega
  have hvy : -1 ≤ my k (y : Int) ∧ my k (y : Int) ≤ 9 := by unfold my; split <;> (try split) <;> omega
  have hk4 : k = 0 ∨ k = 1 ∨ k = 2 ∨ k = 3 := by omega
  have HM := Lib.hid hmul
  clear hmul hm hc
  rcases hk4 with rfl | rfl | rfl | rfl
  all_goals
    simp only [mx, my, if_true, if_false, reduceIte, Nat.reduceEqDiff, (show ¬ (0 : Nat) = 1 by decide), (show ¬ (0 : Nat) = 3 by decide), (show ¬ (1 : Nat) = 0 by decide), (show ¬ (1 : Nat) = 2 by decide), (show ¬ (2 : Nat) = 0 by decide), (show ¬ (2 : Nat) = 1 by decide), (show ¬ (2 : Nat) = 3 by decide), (show ¬ (3 : Nat) = 0 by decide), (show ¬ (3 : Nat) = 1 by decide), (show ¬ (3 : Nat) = 2 by decide)] at hvx hvy ⊢
  · have q1 := (HM.out ((y : Int)) (by omega) (by omega)).1
    have q2 := (HM.out ((y : Int)) (by omega) (by omega)).2
    have HN := Lib.hid (nxy_if W H ((x : Int) + 1) ((y : Int)))
    obtain ⟨r, hr⟩ : ∃ r, r = nxy W H ((x : Int) + 1) ((y : Int)) := ⟨_, rfl⟩
    rw [← hr] at HN ⊢
    clear hr
    have WM2 := Lib.hid (show IntKind.i64.wrap (((y : Int)) * (W : Int)) = ((y : Int)) * (W : Int) from wrapi64 _ (by omega) (by omega))
    have WA2 := Lib.hid (show IntKind.i64.wrap (((y : Int)) * (W : Int) + ((x : Int) + 1)) = ((y : Int)) * (W : Int) + ((x : Int) + 1) from wrapi64 _ (by omega) (by omega))
    have WM := Lib.hid (show wrap64 (((y : Int)) * (W : Int)) = ((y : Int)) * (W : Int) from by rw [wrap_eq]; exact WM2.out)
    have WA := Lib.hid (show wrap64 (((y : Int)) * (W : Int) + ((x : Int) + 1)) = ((y : Int)) * (W : Int) + ((x : Int) + 1) from by rw [wrap_eq]; exact WA2.out)
    clear q1 q2 hvy hvx
    have t0 : ¬ ((x : Int) + 1 < 0) := by omega
    have t2 : ¬ ((y : Int) < 0) := by omega
    have t3 : ¬ ((H : Int) ≤ (y : Int)) := by omega
    by_cases t1 : (W : Int) ≤ (x : Int) + 1
    · have HV := Lib.hid (show r = -1 from by rw [HN.out, if_neg (by omega)])
      have d0 : decide ((x : Int) + 1 < 0) = false := decide_eq_false t0
      have d1 : decide ((W : Int) ≤ (x : Int) + 1) = true := decide_eq_true t1
      clear t0 t1 t2 t3 HN
      go_enter Tryz.func66, Tryz.ntmps66
      go_wp2
      go_quiet (fail)
      go_wp2
      go_ret
      exact ⟨ret_int (HV.out.symm), E0.out.drewN _⟩
    · have HV := Lib.hid (show r = ((y : Int)) * (W : Int) + ((x : Int) + 1) from by rw [HN.out, if_pos (by omega)])
      have d0 : decide ((x : Int) + 1 < 0) = false := decide_eq_false t0
      have d1 : decide ((W : Int) ≤ (x : Int) + 1) = false := decide_eq_false t1
      have d2 : decide ((y : Int) < 0) = false := decide_eq_false t2
      have d3 : decide ((H : Int) ≤ (y : Int)) = false := decide_eq_false t3
      clear t0 t1 t2 t3 HN
      obtain ⟨m, hm⟩ : ∃ m, ((y : Int)) * (W : Int) = m := ⟨_, rfl⟩
      obtain ⟨z, hz⟩ : ∃ z, m + ((x : Int) + 1) = z := ⟨_, rfl⟩
      have wm := WM.out; have wa := WA.out; have wm2 := WM2.out; have wa2 := WA2.out
      rw [hm] at wm wa wm2 wa2 HV
      rw [hz] at wa wa2 HV
      clear WM WA WM2 WA2
      go_enter Tryz.func66, Tryz.ntmps66
      go_wp2
      go_quiet (fail)
      go_wp2
      go_ret
      exact ⟨ret_int (HV.out.symm), E0.out.drewN _⟩
  · have q1 := (HM.out ((y : Int) + 1) (by omega) (by omega)).1
    have q2 := (HM.out ((y : Int) + 1) (by omega) (by omega)).2
    have HN := Lib.hid (nxy_if W H ((x : Int)) ((y : Int) + 1))
    obtain ⟨r, hr⟩ : ∃ r, r = nxy W H ((x : Int)) ((y : Int) + 1) := ⟨_, rfl⟩
    rw [← hr] at HN ⊢
    clear hr
    have WM2 := Lib.hid (show IntKind.i64.wrap (((y : Int) + 1) * (W : Int)) = ((y : Int) + 1) * (W : Int) from wrapi64 _ (by omega) (by omega))
    have WA2 := Lib.hid (show IntKind.i64.wrap (((y : Int) + 1) * (W : Int) + ((x : Int))) = ((y : Int) + 1) * (W : Int) + ((x : Int)) from wrapi64 _ (by omega) (by omega))
    have WM := Lib.hid (show wrap64 (((y : Int) + 1) * (W : Int)) = ((y : Int) + 1) * (W : Int) from by rw [wrap_eq]; exact WM2.out)
    have WA := Lib.hid (show wrap64 (((y : Int) + 1) * (W : Int) + ((x : Int))) = ((y : Int) + 1) * (W : Int) + ((x : Int)) from by rw [wrap_eq]; exact WA2.out)
    clear q1 q2 hvy hvx
    have t0 : ¬ ((x : Int) < 0) := by omega
    have t1 : ¬ ((W : Int) ≤ (x : Int)) := by omega
    have t2 : ¬ ((y : Int) + 1 < 0) := by omega
    by_cases t3 : (H : Int) ≤ (y : Int) + 1
    · have HV := Lib.hid (show r = -1 from by rw [HN.out, if_neg (by omega)])
      have d0 : decide ((x : Int) < 0) = false := decide_eq_false t0
      have d1 : decide ((W : Int) ≤ (x : Int)) = false := decide_eq_false t1
      have d2 : decide ((y : Int) + 1 < 0) = false := decide_eq_false t2
      have d3 : decide ((H : Int) ≤ (y : Int) + 1) = true := decide_eq_true t3
      clear t0 t1 t2 t3 HN
      go_enter Tryz.func66, Tryz.ntmps66
      go_wp2
      go_quiet (fail)
      go_wp2
      go_ret
      exact ⟨ret_int (HV.out.symm), E0.out.drewN _⟩
    · have HV := Lib.hid (show r = ((y : Int) + 1) * (W : Int) + ((x : Int)) from by rw [HN.out, if_pos (by omega)])
      have d0 : decide ((x : Int) < 0) = false := decide_eq_false t0
      have d1 : decide ((W : Int) ≤ (x : Int)) = false := decide_eq_false t1
      have d2 : decide ((y : Int) + 1 < 0) = false := decide_eq_false t2
      have d3 : decide ((H : Int) ≤ (y : Int) + 1) = false := decide_eq_false t3
      clear t0 t1 t2 t3 HN
      obtain ⟨m, hm⟩ : ∃ m, ((y : Int) + 1) * (W : Int) = m := ⟨_, rfl⟩
      obtain ⟨z, hz⟩ : ∃ z, m + ((x : Int)) = z := ⟨_, rfl⟩
      have wm := WM.out; have wa := WA.out; have wm2 := WM2.out; have wa2 := WA2.out
      rw [hm] at wm wa wm2 wa2 HV
      rw [hz] at wa wa2 HV
      clear WM WA WM2 WA2
      go_enter Tryz.func66, Tryz.ntmps66
      go_wp2
      go_quiet (fail)
      go_wp2
      go_ret
      exact ⟨ret_int (HV.out.symm), E0.out.drewN _⟩
  · have q1 := (HM.out ((y : Int)) (by omega) (by omega)).1
    have q2 := (HM.out ((y : Int)) (by omega) (by omega)).2
    have HN := Lib.hid (nxy_if W H ((x : Int) - 1) ((y : Int)))
    obtain ⟨r, hr⟩ : ∃ r, r = nxy W H ((x : Int) - 1) ((y : Int)) := ⟨_, rfl⟩
    rw [← hr] at HN ⊢
    clear hr
    have WM2 := Lib.hid (show IntKind.i64.wrap (((y : Int)) * (W : Int)) = ((y : Int)) * (W : Int) from wrapi64 _ (by omega) (by omega))
    have WA2 := Lib.hid (show IntKind.i64.wrap (((y : Int)) * (W : Int) + ((x : Int) - 1)) = ((y : Int)) * (W : Int) + ((x : Int) - 1) from wrapi64 _ (by omega) (by omega))
    have WM := Lib.hid (show wrap64 (((y : Int)) * (W : Int)) = ((y : Int)) * (W : Int) from by rw [wrap_eq]; exact WM2.out)
    have WA := Lib.hid (show wrap64 (((y : Int)) * (W : Int) + ((x : Int) - 1)) = ((y : Int)) * (W : Int) + ((x : Int) - 1) from by rw [wrap_eq]; exact WA2.out)
    clear q1 q2 hvy hvx
    have t1 : ¬ ((W : Int) ≤ (x : Int) - 1) := by omega
    have t2 : ¬ ((y : Int) < 0) := by omega
    have t3 : ¬ ((H : Int) ≤ (y : Int)) := by omega
    by_cases t0 : (x : Int) - 1 < 0
    · have HV := Lib.hid (show r = -1 from by rw [HN.out, if_neg (by omega)])
      have d0 : decide ((x : Int) - 1 < 0) = true := decide_eq_true t0
      clear t0 t1 t2 t3 HN
      go_enter Tryz.func66, Tryz.ntmps66
      go_wp2
      go_quiet (fail)
      go_wp2
      go_ret
      exact ⟨ret_int (HV.out.symm), E0.out.drewN _⟩
    · have HV := Lib.hid (show r = ((y : Int)) * (W : Int) + ((x : Int) - 1) from by rw [HN.out, if_pos (by omega)])
      have d0 : decide ((x : Int) - 1 < 0) = false := decide_eq_false t0
      have d1 : decide ((W : Int) ≤ (x : Int) - 1) = false := decide_eq_false t1
      have d2 : decide ((y : Int) < 0) = false := decide_eq_false t2
      have d3 : decide ((H : Int) ≤ (y : Int)) = false := decide_eq_false t3
      clear t0 t1 t2 t3 HN
      obtain ⟨m, hm⟩ : ∃ m, ((y : Int)) * (W : Int) = m := ⟨_, rfl⟩
      obtain ⟨z, hz⟩ : ∃ z, m + ((x : Int) - 1) = z := ⟨_, rfl⟩
      have wm := WM.out; have wa := WA.out; have wm2 := WM2.out; have wa2 := WA2.out
      rw [hm] at wm wa wm2 wa2 HV
      rw [hz] at wa wa2 HV
      clear WM WA WM2 WA2
      go_enter Tryz.func66, Tryz.ntmps66
      go_wp2
      go_quiet (fail)
      go_wp2
      go_ret
      exact ⟨ret_int (HV.out.symm), E0.out.drewN _⟩
  · have q1 := (HM.out ((y : Int) - 1) (by omega) (by omega)).1
    have q2 := (HM.out ((y : Int) - 1) (by omega) (by omega)).2
    have HN := Lib.hid (nxy_if W H ((x : Int)) ((y : Int) - 1))
    obtain ⟨r, hr⟩ : ∃ r, r = nxy W H ((x : Int)) ((y : Int) - 1) := ⟨_, rfl⟩
    rw [← hr] at HN ⊢
    clear hr
    have WM2 := Lib.hid (show IntKind.i64.wrap (((y : Int) - 1) * (W : Int)) = ((y : Int) - 1) * (W : Int) from wrapi64 _ (by omega) (by omega))
    have WA2 := Lib.hid (show IntKind.i64.wrap (((y : Int) - 1) * (W : Int) + ((x : Int))) = ((y : Int) - 1) * (W : Int) + ((x : Int)) from wrapi64 _ (by omega) (by omega))
    have WM := Lib.hid (show wrap64 (((y : Int) - 1) * (W : Int)) = ((y : Int) - 1) * (W : Int) from by rw [wrap_eq]; exact WM2.out)
    have WA := Lib.hid (show wrap64 (((y : Int) - 1) * (W : Int) + ((x : Int))) = ((y : Int) - 1) * (W : Int) + ((x : Int)) from by rw [wrap_eq]; exact WA2.out)
    clear q1 q2 hvy hvx
    have t0 : ¬ ((x : Int) < 0) := by omega
    have t1 : ¬ ((W : Int) ≤ (x : Int)) := by omega
    have t3 : ¬ ((H : Int) ≤ (y : Int) - 1) := by omega
    by_cases t2 : (y : Int) - 1 < 0
    · have HV := Lib.hid (show r = -1 from by rw [HN.out, if_neg (by omega)])
      have d0 : decide ((x : Int) < 0) = false := decide_eq_false t0
      have d1 : decide ((W : Int) ≤ (x : Int)) = false := decide_eq_false t1
      have d2 : decide ((y : Int) - 1 < 0) = true := decide_eq_true t2
      clear t0 t1 t2 t3 HN
      go_enter Tryz.func66, Tryz.ntmps66
      go_wp2
      go_quiet (fail)
      go_wp2
      go_ret
      exact ⟨ret_int (HV.out.symm), E0.out.drewN _⟩
    · have HV := Lib.hid (show r = ((y : Int) - 1) * (W : Int) + ((x : Int)) from by rw [HN.out, if_pos (by omega)])
      have d0 : decide ((x : Int) < 0) = false := decide_eq_false t0
      have d1 : decide ((W : Int) ≤ (x : Int)) = false := decide_eq_false t1
      have d2 : decide ((y : Int) - 1 < 0) = false := decide_eq_false t2
      have d3 : decide ((H : Int) ≤ (y : Int) - 1) = false := decide_eq_false t3
      clear t0 t1 t2 t3 HN
      obtain ⟨m, hm⟩ : ∃ m, ((y : Int) - 1) * (W : Int) = m := ⟨_, rfl⟩
      obtain ⟨z, hz⟩ : ∃ z, m + ((x : Int)) = z := ⟨_, rfl⟩
      have wm := WM.out; have wa := WA.out; have wm2 := WM2.out; have wa2 := WA2.out
      rw [hm] at wm wa wm2 wa2 HV
      rw [hz] at wa wa2 HV
      clear WM WA WM2 WA2
      go_enter Tryz.func66, Tryz.ntmps66
      go_wp2
      go_quiet (fail)
      go_wp2
      go_ret
      exact ⟨ret_int (HV.out.symm), E0.out.drewN _⟩
/-- A direction, as the reference gives it. -/
def dirI (W H c : Nat) (d : Int) : Int := if btI W H c d < 4 then (btI W H c d : Int) else -1
theorem btI_four {W H c : Nat} {d : Int} (h : ∀ j, j < 4 → nx W H c j ≠ d) : btI W H c d = 4 := by
  unfold btI
  rw [if_neg (h 0 (by omega)), if_neg (h 1 (by omega)), if_neg (h 2 (by omega)), if_neg (h 3 (by omega))]
set_option maxRecDepth 100000 in
set_option maxHeartbeats 1000000 in
theorem dirTo_c (W H nw cw nk ck : Nat) (aw ak : Option Addr) (c : Nat) (d : Int) (w : World) (hW : 1 ≤ W ∧ W ≤ 8) (hH : 1 ≤ H ∧ H ≤ 8) (hc : c < W * H) :
    Calls Tryz.prog 100 #[.agg #[.int .i64 (W : Int), .int .i64 (H : Int), .slice aw nw cw, .slice ak nk ck], .int .i64 (c : Int), .int .i64 d] w fun e w' => e = .returned (.int .i64 (dirI W H c d)) ∧ Ext w w' := by
  have HNX := Lib.hid (fun (X : World) (k : Nat) (hk : k < 4) => next_c W H nw cw nk ck aw ak c k X hW hH hc hk)
  obtain ⟨w1, hw1⟩ : ∃ w1, w1 = w.alloc (.cells #[.int .i64 (W : Int), .int .i64 (H : Int), .slice aw nw cw, .slice ak nk ck] 24) := ⟨_, rfl⟩
  have E0 := Lib.hid (show Ext w w1 from by rw [hw1]; exact (Ext.refl w).alloc _)
  have B0 := Lib.hid (show w1.heap[w.heap.size]? = some (.cells #[.int .i64 (W : Int), .int .i64 (H : Int), .slice aw nw cw, .slice ak nk ck] 24 (0, 0)) from by rw [hw1]; exact heap_alloc_new w _)
  go_enter Tryz.func100, Tryz.ntmps100
  go_upto_region 1 with fail
  rw [← hw1]
  clear hw1
  go_wp2
  go_loopw [7] (fun i wr => ∃ k : Nat, k ≤ 4 ∧ i = .int .i64 (k : Int) ∧ Hid (∀ j, j < k → nx W H c j ≠ d) ∧ Hid (wr.heap[w.heap.size]? = some (.cells #[.int .i64 (W : Int), .int .i64 (H : Int), .slice aw nw cw, .slice ak nk ck] 24 (0, 0))) ∧ Hid (Ext w wr)) (fun i wr => 4 - (intOf i).toNat)
  case atStart => exact ⟨0, Nat.zero_le _, rfl, Lib.hid (fun j hj => by omega), B0, E0⟩
  case round =>
    clear B0 E0
    obtain ⟨k, hk, rfl, hI, hb, hE⟩ := hrel
    obtain ⟨z0, z1, z2, z3⟩ := cells4 hb.out
    by_cases hlt : k < 4
    · have HC := Lib.hid (HNX.out wr k hlt)
      have hkb : (k : Int) < 4 := by omega
      have HB := hb; have HE := hE
      by_cases he : nx W H c k = d
      · have HR := Lib.hid (show dirI W H c d = (k : Int) from by unfold dirI; rw [btI_to hlt he hI.out, if_pos hlt])
        rw [he] at HC
        go_wp2_with (first | (go_at_call 66; refine Calls.mono HC.out ?_; intro e Y h1; obtain ⟨h1, hY⟩ := h1; subst h1; have HY := Lib.hid hY; clear hY) | fail)
        go_ret
        exact ⟨ret_int HR.out.symm, HE.out.trans HY.out⟩
      · obtain ⟨m, hm⟩ : ∃ m, m = nx W H c k := ⟨_, rfl⟩
        rw [← hm] at HC he
        have HI2 := Lib.hid (show ∀ j, j < k + 1 → nx W H c j ≠ d from fun j hj => by
          by_cases e : j = k
          · subst e; rw [← hm]; exact he
          · exact hI.out j (by omega))
        clear hm
        go_wp2_with (first | (go_at_call 66; refine Calls.mono HC.out ?_; intro e Y h1; obtain ⟨h1, hY⟩ := h1; subst h1; have HY := Lib.hid hY; clear hY; clear z0 z1 z2 z3) | fail)
        go_roundw
        case rel => exact ⟨k + 1, by omega, by go_num, HI2, Lib.hid (block_ext HY.out HB.out), Lib.hid (HE.out.trans HY.out)⟩
        case measure => simp [intOf]; omega
    · obtain rfl : k = 4 := by omega
      have HR := Lib.hid (show dirI W H c d = -1 from by unfold dirI; rw [btI_four hI.out, if_neg (by omega)])
      go_wp2
      go_ret
      exact ⟨ret_int HR.out.symm, hE.out⟩
end Go.Proofs.YtppjnpempgpkaaaGreat
namespace Go.Proofs.YtppjnpempgpkaaaGreat
open Go.RowKit Go.Shelf
set_option linter.unusedVariables false
set_option linter.unusedSimpArgs false
attribute [local go_sem] Oper.semAt_some

set_option maxRecDepth 100000 in
set_option maxHeartbeats 2000000 in
theorem rencloses_c (W H nw cw nk ck : Nat) (aw ak : Option Addr) (wl kl xs : List Int) (v : Value) (w : World) (hw : Reads w (.slice aw nw cw) wl) (hk : Reads w (.slice ak nk ck) kl) (hx : Reads w v xs) :
    Calls Tryz.prog 91 #[.agg #[.int .i64 (W : Int), .int .i64 (H : Int), .slice aw nw cw, .slice ak nk ck], v] w fun e w' => e = .returned (.bool (wl.all (hasB xs) && !kl.any (hasB xs))) ∧ Ext w w' := by
  obtain ⟨r, hr⟩ : ∃ r, r = (wl.all (hasB xs) && !kl.any (hasB xs)) := ⟨_, rfl⟩
  rw [← hr]
  have HR := Lib.hid hr; clear hr
  obtain ⟨hwl, _, _, hwv⟩ := hw.shape
  obtain ⟨hkl, _, _, hkv⟩ := hk.shape
  have HWL := Lib.hid hw; have HKL := Lib.hid hk; have HX := Lib.hid hx
  have hnw := hw.len; have hnk := hk.len
  subst hnw hnk
  clear hw hk hx hwv hkv
  have hl2 : wl.length ≤ 9223372036854775806 := by omega
  have hl3 : kl.length ≤ 9223372036854775806 := by omega
  obtain ⟨w1, hw1⟩ : ∃ w1, w1 = w.alloc (.cells #[.int .i64 (W : Int), .int .i64 (H : Int), .slice aw wl.length cw, .slice ak kl.length ck] 24) := ⟨_, rfl⟩
  have E0 := Lib.hid (show Ext w w1 from by rw [hw1]; exact (Ext.refl w).alloc _)
  have B0 := Lib.hid (show w1.heap[w.heap.size]? = some (.cells #[.int .i64 (W : Int), .int .i64 (H : Int), .slice aw wl.length cw, .slice ak kl.length ck] 24 (0, 0)) from by rw [hw1]; exact heap_alloc_new w _)
  go_enter Tryz.func91, Tryz.ntmps91
  go_upto_region 1 with fail
  rw [← hw1]
  clear hw1
  go_wp2
  go_loopw [5] (fun i wr => ∃ k : Nat, k ≤ wl.length ∧ i = .int .i64 (k : Int) ∧ Hid ((wl.take k).all (hasB xs) = true) ∧ Hid (wr.heap[w.heap.size]? = some (.cells #[.int .i64 (W : Int), .int .i64 (H : Int), .slice aw wl.length cw, .slice ak kl.length ck] 24 (0, 0))) ∧ Hid (Ext w wr)) (fun i wr => wl.length - (intOf i).toNat)
  case atStart => exact ⟨0, Nat.zero_le _, rfl, (by rfl : _ = true), B0, E0⟩
  case round =>
    clear B0 E0
    obtain ⟨k, hk, rfl, hI, hp, hE⟩ := hrel
    obtain ⟨z0, z1, z2, z3⟩ := cells4 hp.out
    by_cases hlt : k < wl.length
    · obtain ⟨b, off, x, rfl, hx, hcx⟩ := (HWL.out.ext hE.out).at hlt
      have HQ := Lib.hid (has_c v xs x wr (HX.out.ext hE.out))
      have HAT := Lib.hid (show (wl.take (k + 1)).all (hasB xs) = hasB xs x from by rw [take_snoc hx, List.all_append, hI.out]; simp)
      have hka : (0 : Int) ≤ (k : Int) := by omega
      have hkb : (k : Int) < (wl.length : Int) := by omega
      have ht : (k : Int).toNat = k := by omega
      clear hx
      generalize hasB xs x = c at *
      cases c
      · have HF := Lib.hid (show r = false from by
          rw [HR.out, Bool.and_eq_false_iff]
          refine .inl ?_
          have h1 := HAT.out
          rw [List.all_eq_false] at h1 ⊢
          obtain ⟨y, hy, h2⟩ := h1
          exact ⟨y, List.mem_of_mem_take hy, h2⟩)
        go_wp2_with (first | (go_at_call 30; refine Calls.mono HQ.out ?_; intro e Y h1; obtain ⟨h1, hY⟩ := h1; subst h1; subst hY) | fail)
        go_ret
        exact ⟨ret_bool HF.out.symm, hE.out⟩
      · go_wp2_with (first | (go_at_call 30; refine Calls.mono HQ.out ?_; intro e Y h1; obtain ⟨h1, hY⟩ := h1; subst h1; subst hY) | fail)
        go_roundw
        case rel => exact ⟨k + 1, by omega, by go_num, HAT, hp, hE⟩
        case measure => simp [intOf]; omega
    · obtain rfl : k = wl.length := by omega
      have HRR := Lib.hid (show r = !kl.any (hasB xs) from by
        have := hI.out
        rw [List.take_of_length_le (Nat.le_refl _)] at this
        rw [HR.out, this, Bool.true_and])
      clear hI HR
      go_wp2
      go_loopw [6] (fun i wr => ∃ k : Nat, k ≤ kl.length ∧ i = .int .i64 (k : Int) ∧ Hid ((kl.take k).any (hasB xs) = false) ∧ Hid (wr.heap[w.heap.size]? = some (.cells #[.int .i64 (W : Int), .int .i64 (H : Int), .slice aw wl.length cw, .slice ak kl.length ck] 24 (0, 0))) ∧ Hid (Ext w wr)) (fun i wr => kl.length - (intOf i).toNat)
      case atStart => exact ⟨0, Nat.zero_le _, rfl, (by rfl : _ = false), hp, hE⟩
      case round =>
        clear z0 z1 z2 z3 hp hE
        obtain ⟨k, hk, rfl, hI, hp, hE⟩ := hrel
        obtain ⟨z0, z1, z2, z3⟩ := cells4 hp.out
        by_cases hlt : k < kl.length
        · obtain ⟨b, off, x, rfl, hx, hcx⟩ := (HKL.out.ext hE.out).at hlt
          have HQ := Lib.hid (has_c v xs x wr (HX.out.ext hE.out))
          have HAT := Lib.hid (show (kl.take (k + 1)).any (hasB xs) = hasB xs x from by rw [take_snoc hx, List.any_append, hI.out]; simp)
          have hka : (0 : Int) ≤ (k : Int) := by omega
          have hkb : (k : Int) < (kl.length : Int) := by omega
          have ht : (k : Int).toNat = k := by omega
          clear hx
          generalize hasB xs x = c at *
          cases c
          · go_wp2_with (first | (go_at_call 30; refine Calls.mono HQ.out ?_; intro e Y h1; obtain ⟨h1, hY⟩ := h1; subst h1; subst hY) | fail)
            go_roundw
            case rel => exact ⟨k + 1, by omega, by go_num, HAT, hp, hE⟩
            case measure => simp [intOf]; omega
          · have HF := Lib.hid (show r = false from by
              rw [HRR.out, Bool.not_eq_false']
              have h1 := HAT.out
              rw [List.any_eq_true] at h1 ⊢
              obtain ⟨y, hy, h2⟩ := h1
              exact ⟨y, List.mem_of_mem_take hy, h2⟩)
            go_wp2_with (first | (go_at_call 30; refine Calls.mono HQ.out ?_; intro e Y h1; obtain ⟨h1, hY⟩ := h1; subst h1; subst hY) | fail)
            go_ret
            exact ⟨ret_bool HF.out.symm, hE.out⟩
        · obtain rfl : k = kl.length := by omega
          have HF := Lib.hid (show r = true from by
            have := hI.out
            rw [List.take_of_length_le (Nat.le_refl _)] at this
            rw [HRR.out, this]; rfl)
          go_wp2
          go_ret
          exact ⟨ret_bool HF.out.symm, hE.out⟩
end Go.Proofs.YtppjnpempgpkaaaGreat
namespace Go.Proofs.YtppjnpempgpkaaaGreat
open Go.RowKit Go.Shelf
set_option linter.unusedVariables false
set_option linter.unusedSimpArgs false
attribute [local go_sem] Oper.semAt_some

theorem hld_has {ns : List Nat} (h : ∀ x ∈ ns, x < 64) (W H c j : Nat) : hld (mkR ns) (nx W H c j) = hasB (natI ns) (nx W H c j) := by
  unfold nx
  cases e : bhP W H (c, j) with
  | none => exact (hasB_neg (by decide)).symm
  | some d => dsimp only; rw [hld_nat, mkR_is h, hasB_nat]
set_option maxRecDepth 100000 in
set_option maxHeartbeats 2000000 in
theorem rsticksOf_c (W H nw cw nk ck : Nat) (aw ak : Option Addr) (ns : List Nat) (v : Value) (w : World) (hW : 1 ≤ W ∧ W ≤ 8) (hH : 1 ≤ H ∧ H ≤ 8) (hx : Reads w v (natI ns)) (hl64 : ns.length ≤ 64) (hin : ∀ x ∈ ns, x < W * H) :
    Calls Tryz.prog 28 #[.agg #[.int .i64 (W : Int), .int .i64 (H : Int), .slice aw nw cw, .slice ak nk ck], v] w fun e w' => e = .returned (.int .i64 (outL (mkR ns) W H ns : Int)) ∧ Ext w w' := by
  have hm64 : W * H ≤ 64 := Nat.mul_le_mul hW.2 hH.2
  have HH := Lib.hid (fun c j => hld_has (ns := ns) (fun x h => by have := hin x h; omega) W H c j)
  obtain ⟨hxl, sa, sc, rfl⟩ := hx.shape
  rw [natI_len] at hxl hx ⊢
  have HX := Lib.hid hx; have HIN := Lib.hid hin
  clear hx hin
  have hn63 : ns.length ≤ 9223372036854775806 := by omega
  obtain ⟨rd, hrd⟩ : ∃ rd, rd = mkR ns := ⟨_, rfl⟩
  rw [← hrd] at HH ⊢
  clear hrd
  obtain ⟨w1, hw1⟩ : ∃ w1, w1 = w.alloc (.cells #[.int .i64 (W : Int), .int .i64 (H : Int), .slice aw nw cw, .slice ak nk ck] 24) := ⟨_, rfl⟩
  have E0 := Lib.hid (show Ext w w1 from by rw [hw1]; exact (Ext.refl w).alloc _)
  have B0 := Lib.hid (show w1.heap[w.heap.size]? = some (.cells #[.int .i64 (W : Int), .int .i64 (H : Int), .slice aw nw cw, .slice ak nk ck] 24 (0, 0)) from by rw [hw1]; exact heap_alloc_new w _)
  go_enter Tryz.func28, Tryz.ntmps28
  go_upto_region 1 with fail
  rw [← hw1]
  clear hw1
  go_wp2
  go_loopw [5, 6] (fun n i wr => ∃ k : Nat, k ≤ ns.length ∧ i = .int .i64 (k : Int) ∧ n = .int .i64 (outL rd W H (ns.take k) : Int) ∧ Hid (wr.heap[w.heap.size]? = some (.cells #[.int .i64 (W : Int), .int .i64 (H : Int), .slice aw nw cw, .slice ak nk ck] 24 (0, 0))) ∧ Hid (Ext w wr)) (fun n i wr => ns.length - (intOf i).toNat)
  case atStart => exact ⟨0, Nat.zero_le _, rfl, rfl, B0, E0⟩
  case round =>
    clear B0 E0
    obtain ⟨i, hi, rfl, rfl, hp, hE⟩ := hrel
    by_cases hlt : i < ns.length
    · obtain ⟨c, hc⟩ := get_some hlt
      have HSN := Lib.hid (show outL rd W H (ns.take (i + 1)) = outL rd W H (ns.take i) + out4 rd W H c 4 from by rw [take_snoc hc, outL_snoc])
      have hle := outL_le rd W H (ns.take i)
      have hl2 : (ns.take i).length ≤ 64 := by rw [List.length_take]; omega
      obtain ⟨N, hN⟩ : ∃ N, N = outL rd W H (ns.take i) := ⟨_, rfl⟩
      rw [← hN] at HSN hle ⊢
      have hN4 : N ≤ 256 := by omega
      have hcw := HIN.out c (List.mem_of_getElem? hc)
      have hia : (0 : Int) ≤ (i : Int) := by omega
      have hib : (i : Int) < (ns.length : Int) := by omega
      have hit : (i : Int).toNat = i := by omega
      have HC := Lib.hid hc
      have HCW := Lib.hid hcw
      clear hN hle hl2 hc hcw
      go_wp2
      go_loopw [5, 7] (fun n j wr => ∃ k : Nat, k ≤ 4 ∧ j = .int .i64 (k : Int) ∧ n = .int .i64 ((N : Int) + (out4 rd W H c k : Int)) ∧ Hid (wr.heap[w.heap.size]? = some (.cells #[.int .i64 (W : Int), .int .i64 (H : Int), .slice aw nw cw, .slice ak nk ck] 24 (0, 0))) ∧ Hid (Ext w wr)) (fun n j wr => 4 - (intOf j).toNat)
      case atStart => exact ⟨0, Nat.zero_le _, rfl, by unfold out4; simp, hp, hE⟩
      case round =>
        clear hp hE
        obtain ⟨k, hk, rfl, rfl, hp, hE⟩ := hrel
        have HE := hE; have HP := hp
        by_cases hlk : k < 4
        · obtain ⟨b, off, x, rfl, hx, hcx⟩ := (HX.out.ext hE.out).at (show i < (natI ns).length by rw [natI_len]; exact hlt)
          have hxc := natI_at HC.out
          rw [hx] at hxc
          cases hxc
          have HNX := Lib.hid (fun (X : World) => next_c W H nw cw nk ck aw ak c k X hW hH HCW.out hlk)
          have HS4 := Lib.hid (out4_succ (rd := rd) (W := W) (H := H) (c := c) hlk)
          have hle := out4_le rd W H c k
          rw [HH.out] at HS4
          obtain ⟨d, hd⟩ : ∃ d, d = nx W H c k := ⟨_, rfl⟩
          rw [← hd] at HNX HS4
          have HQ := Lib.hid (fun (X : World) (h : Ext w X) => has_c _ (natI ns) d X (HX.out.ext h))
          obtain ⟨m, hm⟩ : ∃ m, m = out4 rd W H c k := ⟨_, rfl⟩
          rw [← hm] at HS4 hle ⊢
          have hkb : (k : Int) < 4 := by omega
          have hN2 : (N : Int) ≤ 256 := by omega
          have hm2 : (m : Int) ≤ 4 := by omega
          clear hx hd hm
          generalize hasB (natI ns) d = q at *
          go_upto_region 8 with fail
          refine wp_region_order ((fun Y : World => Y.heap[w.heap.size]? = some (.cells #[.int .i64 (W : Int), .int .i64 (H : Int), .slice aw nw cw, .slice ak nk ck] 24 (0, 0)) ∧ Y.cell? ⟨b, off + i, none⟩ = some (.int .i64 (c : Int)))) [0, 1, 2, 3, 4, 5, 6, 7, 8, 9] (by kernel_rfl) (by kernel_rfl) (by exact ⟨hp.out, hcx⟩) (fun hHeld => ?_)
          simp only [opsIn, List.filterMap_cons, List.filterMap_nil, List.getElem?_toArray, List.getElem?_cons_succ, List.getElem?_cons_zero]
          refine' text_chunk 7 (by kernel_rfl) hHeld ?ck1 ?cr1
          case ck1 =>
            intro W hSw
            have hSW := hSw
            try dsimp only at hSW
            clear hSw
            obtain ⟨s1, s2⟩ := hSW
            obtain ⟨z0, z1, z2, z3⟩ := cells4 s1
            simp only [List.take_succ_cons, List.take_zero, List.drop_succ_cons, List.drop_zero]
            repeat (go_big_quiet_step (fail))
            exact wpQuiet_nil rfl
          simp only [List.take_succ_cons, List.take_zero, List.drop_succ_cons, List.drop_zero]
          refine text_call (by rfl) (by rfl) (fun K hK => ?_)
          go_simp
          refine Calls.mono (HNX.out _) ?_
          intro e Y5 h1; obtain ⟨h1, hE⟩ := h1; subst h1
          have HD5 := Lib.hid hE
          clear hE
          all_goals (try (go_wp2_with fail))
          refine hK.out _ _ (by exact ⟨block_ext HD5.out hHeld.1, cell_ext HD5.out hHeld.2⟩) (fun hHeld => ?_)
          clear hK K
          try simp only [Act.put, List.setIfInBounds_toArray, List.set_cons_zero, List.set_cons_succ]
          refine text_call (by rfl) (by rfl) (fun K hK => ?_)
          go_simp
          refine Calls.mono (HQ.out _ (HE.out.drew.trans HD5.out)) ?_
          intro e Y6 h1; obtain ⟨h1, hE⟩ := h1; subst h1; subst hE
          all_goals (try (go_wp2_with fail))
          refine hK.out _ _ (by exact hHeld) (fun hHeld => ?_)
          clear hK K
          try simp only [Act.put, List.setIfInBounds_toArray, List.set_cons_zero, List.set_cons_succ]
          refine' text_chunk 1 (by kernel_rfl) hHeld ?ck2 ?cr2
          case ck2 =>
            intro W hSw
            have hSW := hSw
            try dsimp only at hSW
            clear hSw
            skip
            simp only [List.take_succ_cons, List.take_zero, List.drop_succ_cons, List.drop_zero]
            repeat (go_big_quiet_step (fail))
            exact wpQuiet_nil rfl
          simp only [List.take_succ_cons, List.take_zero, List.drop_succ_cons, List.drop_zero]
          refine text_done ?_
          have HP6 := Lib.hid hHeld.1
          have HE6 := Lib.hid (HE.out.drew.trans HD5.out)
          clear hHeld HD5
          cases q
          · have HS5 := Lib.hid (show (N : Int) + (out4 rd W H c (k + 1) : Int) = (N : Int) + (m : Int) + 1 from by rw [HS4.out]; simp; omega)
            go_wp2
            go_roundw
            case rel => exact ⟨k + 1, by omega, by go_num, by rw [HS5.out], HP6, HE6⟩
            case measure => simp [intOf]; omega
          · have HS5 := Lib.hid (show out4 rd W H c (k + 1) = m from by rw [HS4.out]; simp)
            go_wp2
            go_roundw
            case rel => exact ⟨k + 1, by omega, by go_num, by rw [HS5.out], HP6, HE6⟩
            case measure => simp [intOf]; omega
        · obtain rfl : k = 4 := by omega
          have HS5 := Lib.hid (show (outL rd W H (ns.take (i + 1)) : Int) = (N : Int) + (out4 rd W H c 4 : Int) from by rw [HSN.out]; push_cast; rfl)
          go_wp2
          go_roundw
          case rel => exact ⟨i + 1, by omega, by go_num, by rw [HS5.out], hp, hE⟩
          case measure => simp [intOf]; omega
    · obtain rfl : i = ns.length := by omega
      have hfin : outL rd W H (ns.take ns.length) = outL rd W H ns := by rw [List.take_of_length_le (Nat.le_refl _)]
      rw [hfin]
      clear hfin
      go_wp2
      go_ret
      exact ⟨rfl, hE.out⟩
end Go.Proofs.YtppjnpempgpkaaaGreat
namespace Go.Proofs.YtppjnpempgpkaaaGreat
open Go.RowKit Go.Shelf
set_option linter.unusedVariables false
set_option linter.unusedSimpArgs false
attribute [local go_sem] Oper.semAt_some

theorem up_unique : ∀ {a b : List Nat}, a.Pairwise (· < ·) → b.Pairwise (· < ·) → (∀ x, x ∈ a ↔ x ∈ b) → a = b
  | [], [], _, _, _ => rfl
  | [], y :: b, _, _, h => absurd ((h y).2 (by simp)) (by simp)
  | x :: a, [], _, _, h => absurd ((h x).1 (by simp)) (by simp)
  | x :: a, y :: b, h1, h2, h => by
    rw [List.pairwise_cons] at h1 h2
    have hxy : x = y := by
      have q1 := (h x).1 (by simp)
      have q2 := (h y).2 (by simp)
      rw [List.mem_cons] at q1 q2
      rcases q1 with q1 | q1
      · exact q1
      · rcases q2 with q2 | q2
        · exact q2.symm
        · have := h2.1 x q1
          have := h1.1 y q2
          omega
    subst hxy
    rw [up_unique h1.2 h2.2 fun z => ?_]
    constructor
    · intro hz
      have q := (h z).1 (by simp [hz])
      rw [List.mem_cons] at q
      rcases q with rfl | q
      · have := h1.1 z hz; omega
      · exact q
    · intro hz
      have q := (h z).2 (by simp [hz])
      rw [List.mem_cons] at q
      rcases q with rfl | q
      · have := h2.1 z hz; omega
      · exact q
theorem cells_mk {n : Nat} {ns : List Nat} (h : Lst n ns) (hn : n ≤ 64) : cellsR n (mkR ns) = ns := by
  unfold cellsR
  refine up_unique (List.Pairwise.filter _ List.pairwise_lt_range) h.up fun x => ?_
  rw [List.mem_filter, List.mem_range, mkR_is (fun y hy => by have := h.lt y hy; omega), decide_eq_true_iff]
  exact ⟨fun q => q.2, fun q => ⟨h.lt x q, q⟩⟩
theorem out_stk {W H : Nat} {wn kn : List Nat} (hv : VP W H wn kn) {ns : List Nat} (h : Lst (W * H) ns) : outL (mkR ns) W H ns = stk (gp hv) (memL ns) := by
  have h1 := outL_stk (G := gp hv) (W := W) (H := H) rfl rfl (mkR ns)
  rw [cells_mk h hv.n64] at h1
  rw [h1]
  congr 1
  funext c
  exact mkR_is (fun y hy => by have := h.lt y hy; have := hv.n64; omega) c
theorem enc_nat (wn kn ns : List Nat) : ((natI wn).all (hasB (natI ns)) && !(natI kn).any (hasB (natI ns))) = encB wn kn ns := by
  unfold encB natI
  rw [List.all_map, List.any_map]
  have e : (hasB (List.map (fun c : Nat => (c : Int)) ns) ∘ fun c : Nat => (c : Int)) = memL ns := by
    funext c
    exact hasB_nat
  rw [e]
set_option maxRecDepth 100000 in
set_option maxHeartbeats 1000000 in
theorem rsticks_no (W H : Int) (nw cw nk ck : Nat) (aw ak : Option Addr) (wl kl : List Int) (w : World) (hw : Reads w (.slice aw nw cw) wl) (hk : Reads w (.slice ak nk ck) kl) (hne : chkP W H wl kl ≠ 0) (v : Value) :
    Calls Tryz.prog 55 #[.agg #[.int .i64 W, .int .i64 H, .slice aw nw cw, .slice ak nk ck], v] w fun e w' => e = .returned (.tuple #[.int .i64 0, .int .i64 (chkP W H wl kl)]) ∧ Ext w w' := by
  have HCP := Lib.hid (fun (X : World) (h : Ext w X) => rcheckPond_c W H nw cw nk ck aw ak wl kl X (hw.ext h) (hk.ext h))
  have E0 := Lib.hid ((Ext.refl w).alloc (.cells #[.int .i64 W, .int .i64 H, .slice aw nw cw, .slice ak nk ck] 24))
  have B0 := Lib.hid (heap_alloc_new w (.cells #[.int .i64 W, .int .i64 H, .slice aw nw cw, .slice ak nk ck] 24))
  obtain ⟨x, hx⟩ : ∃ x, chkP W H wl kl = x := ⟨_, rfl⟩
  rw [hx] at hne HCP ⊢
  have hq : (x != 0) = true := by simp [hne]
  clear hx hw hk
  obtain ⟨c0, c1, c2, c3⟩ := cells4 B0.out
  go_enter Tryz.func55, Tryz.ntmps55
  go_wp2_with (first | (go_at_call 36; have hgg := HE1.out; clear hgg; refine Calls.mono (HCP.out _ (HE1.out)) ?_; intro e Y2 h1; obtain ⟨h1, hE⟩ := h1; have hg := HE1.out; clear hg; subst h1; have HE2 := Lib.hid (HE1.out.trans hE); have B2 := Lib.hid (block_ext hE B1.out); clear hE; obtain ⟨d0, d1, d2, d3⟩ := cells4 B2.out) | (go_at_call 36; refine Calls.mono (HCP.out _ (E0.out)) ?_; intro e Y1 h1; obtain ⟨h1, hE⟩ := h1; subst h1; have HE1 := Lib.hid (E0.out.trans hE); have B1 := Lib.hid (block_ext hE B0.out); clear hE; obtain ⟨d0, d1, d2, d3⟩ := cells4 B1.out) | fail)
  refine bodyPost_ret (by first | (simp [results, Tryz.results55, go_sem]; done) | (simp [results, Tryz.results55, go_sem]; rfl)) rfl ?_
  exact ⟨rfl, HE2.out⟩
set_option maxRecDepth 100000 in
set_option maxHeartbeats 1000000 in
theorem rsticks_bad (W H nw cw nk ck : Nat) (aw ak : Option Addr) (wn kn : List Nat) (hv : VP W H wn kn) (v : Value) (w : World) (hw : Reads w (.slice aw nw cw) (natI wn)) (hk : Reads w (.slice ak nk ck) (natI kn)) (xs : List Int) (hx : Reads w v xs) (hc : lstB (W * H) xs = false) :
    Calls Tryz.prog 55 #[.agg #[.int .i64 (W : Int), .int .i64 (H : Int), .slice aw nw cw, .slice ak nk ck], v] w fun e w' => e = .returned (.tuple #[.int .i64 0, .int .i64 2]) ∧ Ext w w' := by
  have hW : 1 ≤ W ∧ W ≤ 8 := ⟨hv.w1, hv.w8⟩
  have hH : 1 ≤ H ∧ H ≤ 8 := ⟨hv.h1, hv.h8⟩
  have h0 : chkP W H (natI wn) (natI kn) = 0 := chkP_ok.2 ⟨W, H, wn, kn, ⟨rfl, rfl⟩, ⟨rfl, rfl⟩, hv⟩
  have HCP := Lib.hid (fun (X : World) (h : Ext w X) => rcheckPond_c W H nw cw nk ck aw ak (natI wn) (natI kn) X (hw.ext h) (hk.ext h))
  rw [h0] at HCP
  have hn64 := hv.n64
  have HCE := Lib.hid (fun (X : World) => rcells_c W H nw cw nk ck aw ak hW.2 hH.2 X)
  have E0 := Lib.hid ((Ext.refl w).alloc (.cells #[.int .i64 (W : Int), .int .i64 (H : Int), .slice aw nw cw, .slice ak nk ck] 24))
  have B0 := Lib.hid (heap_alloc_new w (.cells #[.int .i64 (W : Int), .int .i64 (H : Int), .slice aw nw cw, .slice ak nk ck] 24))
  obtain ⟨c0, c1, c2, c3⟩ := cells4 B0.out
  have HIL := Lib.hid (fun (X : World) (h : Ext w X) => isList_c (W * H) v xs X (hx.ext h) hn64)
  rw [hc] at HIL
  clear h0 hw hk hx hc hv hn64
  go_enter Tryz.func55, Tryz.ntmps55
  go_wp2_with (first | (go_at_call 36; refine Calls.mono (HCP.out _ (E0.out)) ?_; intro e Y1 h1; obtain ⟨h1, hE⟩ := h1; subst h1; have HE1 := Lib.hid (E0.out.trans hE); have B1 := Lib.hid (block_ext hE B0.out); clear hE; obtain ⟨d0, d1, d2, d3⟩ := cells4 B1.out) | (go_at_call 31; refine Calls.mono (HCE.out _) ?_; intro e Y2 h1; obtain ⟨h1, hE⟩ := h1; subst h1; have HE2 := Lib.hid (HE1.out.trans hE); have B2 := Lib.hid (block_ext hE B1.out); clear hE; obtain ⟨d0, d1, d2, d3⟩ := cells4 B2.out) | (go_at_call 67; refine Calls.mono (HIL.out _ (HE2.out)) ?_; intro e Y3 h1; obtain ⟨h1, hE⟩ := h1; subst h1; have HE3 := Lib.hid (HE2.out.trans hE); have B3 := Lib.hid (block_ext hE B2.out); clear hE; obtain ⟨d0, d1, d2, d3⟩ := cells4 B3.out) | fail)
  refine bodyPost_ret (by first | (simp [results, Tryz.results55, go_sem]; done) | (simp [results, Tryz.results55, go_sem]; rfl)) rfl ?_
  exact ⟨rfl, HE3.out⟩
set_option maxRecDepth 100000 in
set_option maxHeartbeats 1000000 in
theorem rsticks_ok (W H nw cw nk ck : Nat) (aw ak : Option Addr) (wn kn : List Nat) (hv : VP W H wn kn) (v : Value) (w : World) (hw : Reads w (.slice aw nw cw) (natI wn)) (hk : Reads w (.slice ak nk ck) (natI kn)) (ns : List Nat) (hl : Lst (W * H) ns) (hx : Reads w v (natI ns)) :
    Calls Tryz.prog 55 #[.agg #[.int .i64 (W : Int), .int .i64 (H : Int), .slice aw nw cw, .slice ak nk ck], v] w fun e w' => e = .returned (.tuple #[.int .i64 (if encB wn kn ns = true then (stk (gp hv) (memL ns) : Int) else 0), .int .i64 (if encB wn kn ns = true then 0 else 19)]) ∧ Ext w w' := by
  have hW : 1 ≤ W ∧ W ≤ 8 := ⟨hv.w1, hv.w8⟩
  have hH : 1 ≤ H ∧ H ≤ 8 := ⟨hv.h1, hv.h8⟩
  have h0 : chkP W H (natI wn) (natI kn) = 0 := chkP_ok.2 ⟨W, H, wn, kn, ⟨rfl, rfl⟩, ⟨rfl, rfl⟩, hv⟩
  have HCP := Lib.hid (fun (X : World) (h : Ext w X) => rcheckPond_c W H nw cw nk ck aw ak (natI wn) (natI kn) X (hw.ext h) (hk.ext h))
  rw [h0] at HCP
  have hn64 := hv.n64
  have HCE := Lib.hid (fun (X : World) => rcells_c W H nw cw nk ck aw ak hW.2 hH.2 X)
  have E0 := Lib.hid ((Ext.refl w).alloc (.cells #[.int .i64 (W : Int), .int .i64 (H : Int), .slice aw nw cw, .slice ak nk ck] 24))
  have B0 := Lib.hid (heap_alloc_new w (.cells #[.int .i64 (W : Int), .int .i64 (H : Int), .slice aw nw cw, .slice ak nk ck] 24))
  obtain ⟨c0, c1, c2, c3⟩ := cells4 B0.out
  have HIL := Lib.hid (fun (X : World) (h : Ext w X) => isList_c (W * H) v (natI ns) X (hx.ext h) hn64)
  rw [show lstB (W * H) (natI ns) = true from lstB_iff.2 ⟨ns, rfl, hl⟩] at HIL
  have HEN := Lib.hid (fun (X : World) (h : Ext w X) => rencloses_c W H nw cw nk ck aw ak (natI wn) (natI kn) (natI ns) v X (hw.ext h) (hk.ext h) (hx.ext h))
  rw [enc_nat] at HEN
  have HSO := Lib.hid (fun (X : World) (h : Ext w X) => rsticksOf_c W H nw cw nk ck aw ak ns v X hW hH (hx.ext h) (Nat.le_trans hl.len hn64) hl.lt)
  rw [out_stk hv hl] at HSO
  obtain ⟨n, hn⟩ : ∃ n, n = stk (gp hv) (memL ns) := ⟨_, rfl⟩
  rw [← hn] at HSO ⊢
  generalize encB wn kn ns = b at *
  clear h0 hw hk hx hl hn hv hn64
  cases b
  · go_enter Tryz.func55, Tryz.ntmps55
    go_wp2_with (first | (go_at_call 36; refine Calls.mono (HCP.out _ (E0.out)) ?_; intro e Y1 h1; obtain ⟨h1, hE⟩ := h1; subst h1; have HE1 := Lib.hid (E0.out.trans hE); have B1 := Lib.hid (block_ext hE B0.out); clear hE; obtain ⟨d0, d1, d2, d3⟩ := cells4 B1.out) | (go_at_call 31; refine Calls.mono (HCE.out _) ?_; intro e Y2 h1; obtain ⟨h1, hE⟩ := h1; subst h1; have HE2 := Lib.hid (HE1.out.trans hE); have B2 := Lib.hid (block_ext hE B1.out); clear hE; obtain ⟨d0, d1, d2, d3⟩ := cells4 B2.out) | (go_at_call 67; refine Calls.mono (HIL.out _ (HE2.out)) ?_; intro e Y3 h1; obtain ⟨h1, hE⟩ := h1; subst h1; have HE3 := Lib.hid (HE2.out.trans hE); have B3 := Lib.hid (block_ext hE B2.out); clear hE; obtain ⟨d0, d1, d2, d3⟩ := cells4 B3.out) | (go_at_call 91; refine Calls.mono (HEN.out _ (HE3.out)) ?_; intro e Y4 h1; obtain ⟨h1, hE⟩ := h1; subst h1; have HE4 := Lib.hid (HE3.out.trans hE); have B4 := Lib.hid (block_ext hE B3.out); clear hE; obtain ⟨d0, d1, d2, d3⟩ := cells4 B4.out) | fail)
    refine bodyPost_ret (by first | (simp [results, Tryz.results55, go_sem]; done) | (simp [results, Tryz.results55, go_sem]; rfl)) rfl ?_
    exact ⟨rfl, HE4.out⟩
  · go_enter Tryz.func55, Tryz.ntmps55
    go_wp2_with (first | (go_at_call 36; refine Calls.mono (HCP.out _ (E0.out)) ?_; intro e Y1 h1; obtain ⟨h1, hE⟩ := h1; subst h1; have HE1 := Lib.hid (E0.out.trans hE); have B1 := Lib.hid (block_ext hE B0.out); clear hE; obtain ⟨d0, d1, d2, d3⟩ := cells4 B1.out) | (go_at_call 31; refine Calls.mono (HCE.out _) ?_; intro e Y2 h1; obtain ⟨h1, hE⟩ := h1; subst h1; have HE2 := Lib.hid (HE1.out.trans hE); have B2 := Lib.hid (block_ext hE B1.out); clear hE; obtain ⟨d0, d1, d2, d3⟩ := cells4 B2.out) | (go_at_call 67; refine Calls.mono (HIL.out _ (HE2.out)) ?_; intro e Y3 h1; obtain ⟨h1, hE⟩ := h1; subst h1; have HE3 := Lib.hid (HE2.out.trans hE); have B3 := Lib.hid (block_ext hE B2.out); clear hE; obtain ⟨d0, d1, d2, d3⟩ := cells4 B3.out) | (go_at_call 91; refine Calls.mono (HEN.out _ (HE3.out)) ?_; intro e Y4 h1; obtain ⟨h1, hE⟩ := h1; subst h1; have HE4 := Lib.hid (HE3.out.trans hE); have B4 := Lib.hid (block_ext hE B3.out); clear hE; obtain ⟨d0, d1, d2, d3⟩ := cells4 B4.out) | (go_at_call 28; refine Calls.mono (HSO.out _ (HE4.out)) ?_; intro e Y5 h1; obtain ⟨h1, hE⟩ := h1; subst h1; have HE5 := Lib.hid (HE4.out.trans hE); have B5 := Lib.hid (block_ext hE B4.out); clear hE; obtain ⟨d0, d1, d2, d3⟩ := cells4 B5.out) | fail)
    refine bodyPost_ret (by first | (simp [results, Tryz.results55, go_sem]; done) | (simp [results, Tryz.results55, go_sem]; rfl)) rfl ?_
    exact ⟨rfl, HE5.out⟩
end Go.Proofs.YtppjnpempgpkaaaGreat
