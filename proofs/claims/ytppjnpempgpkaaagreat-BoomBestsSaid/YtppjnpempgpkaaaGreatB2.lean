/- What is behind a side, turned, the iterators as values, CheckPond, open, by their contracts. -/
import Derived.Test.YtppjnpempgpkaaaGreatB1
namespace Go.Proofs.YtppjnpempgpkaaaGreat
open Go.RowKit
set_option linter.unusedVariables false
set_option linter.unusedSimpArgs false
theorem within1 (lo hi x : Int) (X : World) (n : Nat) (hn : n = X.heap.size) : Calls Tryz.prog 68 #[.int .i64 lo, .int .i64 hi, .slice (some ⟨n, 0, none⟩) 1 1] (X.alloc (.cells #[.int .i64 x] 3)) fun e w' => e = .returned (.bool (inn lo hi [x])) ∧ X.alloc (.cells #[.int .i64 x] 3) = w' :=
  within_c lo hi _ [x] _ (Reads.new X [x] 3 _ hn (by simp) _ rfl 1 1 rfl)
theorem within2 (lo hi x y : Int) (X : World) (n : Nat) (hn : n = X.heap.size) : Calls Tryz.prog 68 #[.int .i64 lo, .int .i64 hi, .slice (some ⟨n, 0, none⟩) 2 2] (X.alloc (.cells #[.int .i64 x, .int .i64 y] 3)) fun e w' => e = .returned (.bool (inn lo hi [x, y])) ∧ X.alloc (.cells #[.int .i64 x, .int .i64 y] 3) = w' :=
  within_c lo hi _ [x, y] _ (Reads.new X [x, y] 3 _ hn (by simp) _ rfl 2 2 rfl)
/-- A side's column and row, one step on. -/
def mx (k : Nat) (x : Int) : Int := if k = 0 then x + 1 else if k = 2 then x - 1 else x
def my (k : Nat) (y : Int) : Int := if k = 1 then y + 1 else if k = 3 then y - 1 else y
def nxy (W H : Nat) (x y : Int) : Int := if inn 0 ((W : Int) - 1) [x] = true ∧ inn 0 ((H : Int) - 1) [y] = true then y * W + x else -1
theorem inn_one {lo hi x : Int} : inn lo hi [x] = true ↔ lo ≤ x ∧ x ≤ hi := by simp [inn]
theorem nx_xy {W H c k : Nat} (hc : c < W * H) (hk : k < 4) : nx W H c k = nxy W H (mx k ((c % W : Nat) : Int)) (my k ((c / W : Nat) : Int)) := by
  have hW : 0 < W := Nat.pos_of_ne_zero fun e => by rw [e] at hc; simp at hc
  have h1 : c % W < W := Nat.mod_lt _ hW
  have h2 : c / W < H := by rw [Nat.div_lt_iff_lt_mul hW, Nat.mul_comm]; exact hc
  have h3 : W * (c / W) + c % W = c := Nat.div_add_mod c W
  have h4 : ((c / W : Nat) : Int) * (W : Int) + ((c % W : Nat) : Int) = (c : Int) := by rw [← Int.natCast_mul, ← Int.natCast_add, Nat.mul_comm, h3]
  have h5 : (((c / W : Nat) : Int) + 1) * (W : Int) = ((c / W : Nat) : Int) * (W : Int) + W := by rw [Int.add_mul, Int.one_mul]
  have h6 : (((c / W : Nat) : Int) - 1) * (W : Int) = ((c / W : Nat) : Int) * (W : Int) - W := by rw [Int.sub_mul, Int.one_mul]
  have h7 : 0 < c / W → W ≤ c := fun h => by
    have : W * 1 ≤ W * (c / W) := Nat.mul_le_mul_left W h
    omega
  have hk' : k = 0 ∨ k = 1 ∨ k = 2 ∨ k = 3 := by omega
  clear h3 hc
  rcases hk' with rfl | rfl | rfl | rfl
  · have e : nx W H c 0 = if c % W + 1 < W then (c : Int) + 1 else -1 := by
      show (match (if c % W + 1 < W then some (c + 1) else none : Option Nat) with | some d => (d : Int) | none => -1) = _
      by_cases q : c % W + 1 < W
      · rw [if_pos q, if_pos q]; all_goals rfl
      · rw [if_neg q, if_neg q]
    rw [e]
    show _ = if inn 0 ((W : Int) - 1) [((c % W : Nat) : Int) + 1] = true ∧ inn 0 ((H : Int) - 1) [((c / W : Nat) : Int)] = true then ((c / W : Nat) : Int) * (W : Int) + (((c % W : Nat) : Int) + 1) else -1
    simp only [inn_one]
    clear e h5 h6 h7
    generalize ((c / W : Nat) : Int) * (W : Int) = z at *
    generalize c % W = x at *
    generalize c / W = y at *
    by_cases q : x + 1 < W
    · rw [if_pos q, if_pos (by omega)]; omega
    · rw [if_neg q, if_neg (by omega)]
  · have e : nx W H c 1 = if c / W + 1 < H then (c : Int) + (W : Int) else -1 := by
      show (match (if c / W + 1 < H then some (c + W) else none : Option Nat) with | some d => (d : Int) | none => -1) = _
      by_cases q : c / W + 1 < H
      · rw [if_pos q, if_pos q]; all_goals rfl
      · rw [if_neg q, if_neg q]
    rw [e]
    show _ = if inn 0 ((W : Int) - 1) [((c % W : Nat) : Int)] = true ∧ inn 0 ((H : Int) - 1) [((c / W : Nat) : Int) + 1] = true then (((c / W : Nat) : Int) + 1) * (W : Int) + ((c % W : Nat) : Int) else -1
    simp only [inn_one, h5]
    clear e h5 h6 h7
    generalize ((c / W : Nat) : Int) * (W : Int) = z at *
    generalize c % W = x at *
    generalize c / W = y at *
    by_cases q : y + 1 < H
    · rw [if_pos q, if_pos (by omega)]; omega
    · rw [if_neg q, if_neg (by omega)]
  · have e : nx W H c 2 = if 0 < c % W then ((c - 1 : Nat) : Int) else -1 := by
      show (match (if 0 < c % W then some (c - 1) else none : Option Nat) with | some d => (d : Int) | none => -1) = _
      by_cases q : 0 < c % W
      · rw [if_pos q, if_pos q]; all_goals rfl
      · rw [if_neg q, if_neg q]
    rw [e]
    show _ = if inn 0 ((W : Int) - 1) [((c % W : Nat) : Int) - 1] = true ∧ inn 0 ((H : Int) - 1) [((c / W : Nat) : Int)] = true then ((c / W : Nat) : Int) * (W : Int) + (((c % W : Nat) : Int) - 1) else -1
    simp only [inn_one]
    have h8 := Nat.mod_le c W
    clear e h5 h6 h7
    generalize ((c / W : Nat) : Int) * (W : Int) = z at *
    generalize c % W = x at *
    generalize c / W = y at *
    by_cases q : 0 < x
    · rw [if_pos q, if_pos (by omega)]; omega
    · rw [if_neg q, if_neg (by omega)]
  · have e : nx W H c 3 = if 0 < c / W then ((c - W : Nat) : Int) else -1 := by
      show (match (if 0 < c / W then some (c - W) else none : Option Nat) with | some d => (d : Int) | none => -1) = _
      by_cases q : 0 < c / W
      · rw [if_pos q, if_pos q]; all_goals rfl
      · rw [if_neg q, if_neg q]
    rw [e]
    show _ = if inn 0 ((W : Int) - 1) [((c % W : Nat) : Int)] = true ∧ inn 0 ((H : Int) - 1) [((c / W : Nat) : Int) - 1] = true then (((c / W : Nat) : Int) - 1) * (W : Int) + ((c % W : Nat) : Int) else -1
    simp only [inn_one, h6]
    clear e h5 h6
    generalize ((c / W : Nat) : Int) * (W : Int) = z at *
    generalize c % W = x at *
    generalize c / W = y at *
    by_cases q : 0 < y
    · have := h7 q
      rw [if_pos q, if_pos (by omega)]; omega
    · rw [if_neg q, if_neg (by omega)]
theorem nx_bound {W H c k : Nat} (hW : W ≤ 8) (hH : H ≤ 8) (hc : c < W * H) (hk : k < 4) : nx W H c k = -1 ∨ ∃ d : Nat, nx W H c k = (d : Int) ∧ bhP W H (c, k) = some d ∧ d < W * H := by
  unfold nx
  cases e : bhP W H (c, k) with
  | none => exact .inl rfl
  | some d => exact .inr ⟨d, rfl, rfl, (grid_at hW hH hc hk e).1⟩
theorem nx_none {W H c k : Nat} (h : nx W H c k = -1) : bhP W H (c, k) = none := by
  unfold nx at h
  cases e : bhP W H (c, k) with
  | none => rfl
  | some d => rw [e] at h; dsimp only at h; omega
theorem nx_some {W H c k d : Nat} (h : nx W H c k = (d : Int)) : bhP W H (c, k) = some d := by
  unfold nx at h
  cases e : bhP W H (c, k) with
  | none => rw [e] at h; dsimp only at h; omega
  | some d' => rw [e] at h; dsimp only at h; rw [show d' = d from by omega]
set_option maxRecDepth 100000 in
set_option maxHeartbeats 2000000 in
theorem behind_c (W H nw cw nk ck : Nat) (aw ak : Option Addr) (c k : Nat) (w : World) (hW : 1 ≤ W ∧ W ≤ 8) (hH : 1 ≤ H ∧ H ≤ 8) (hc : c < W * H) (hk : k < 4) :
    Calls Tryz.prog 113 #[.agg #[.int .i64 (W : Int), .int .i64 (H : Int), .slice aw nw cw, .slice ak nk ck], .agg #[.int .i64 (c : Int), .int .i64 (k : Int)]] w fun e w' => e = .returned (.int .i64 (nx W H c k)) ∧ Ext w w' := by
  have hm : W * H ≤ 64 := Nat.mul_le_mul hW.2 hH.2
  rw [nx_xy hc hk]
  have h1 : c % W < W := Nat.mod_lt _ hW.1
  have h2 : c / W < H := by rw [Nat.div_lt_iff_lt_mul hW.1, Nat.mul_comm]; exact hc
  have et : (c : Int).tmod (W : Int) = ((c % W : Nat) : Int) := (Int.ofNat_tmod c W).symm
  have ed : (c : Int).tdiv (W : Int) = ((c / W : Nat) : Int) := (Int.ofNat_tdiv c W).symm
  obtain ⟨x, hx⟩ : ∃ x : Nat, x = c % W := ⟨_, rfl⟩
  obtain ⟨y, hy⟩ : ∃ y : Nat, y = c / W := ⟨_, rfl⟩
  rw [← hx] at et h1 ⊢
  rw [← hy] at ed h2 ⊢
  clear hx hy
  have hWz : ((W : Int) = 0) = False := by simp; omega
  have hWz2 : ¬ (W : Int) = 0 := by omega
  have hWz3 : ¬ W = 0 := by omega
  have wx : IntKind.i64.wrap (x : Int) = (x : Int) := wrapi64 _ (by omega) (by omega)
  have wy : IntKind.i64.wrap (y : Int) = (y : Int) := wrapi64 _ (by omega) (by omega)
  have wx1 : IntKind.i64.wrap ((x : Int) + 1) = (x : Int) + 1 := wrapi64 _ (by omega) (by omega)
  have wy1 : IntKind.i64.wrap ((y : Int) + 1) = (y : Int) + 1 := wrapi64 _ (by omega) (by omega)
  have wx2 : IntKind.i64.wrap ((x : Int) - 1) = (x : Int) - 1 := wrapi64 _ (by omega) (by omega)
  have wy2 : IntKind.i64.wrap ((y : Int) - 1) = (y : Int) - 1 := wrapi64 _ (by omega) (by omega)
  have wW : IntKind.i64.wrap ((W : Int) - 1) = (W : Int) - 1 := wrapi64 _ (by omega) (by omega)
  have wH : IntKind.i64.wrap ((H : Int) - 1) = (H : Int) - 1 := wrapi64 _ (by omega) (by omega)
  have E0 := Lib.hid (((Ext.refl w).alloc (.cells #[.int .i64 (W : Int), .int .i64 (H : Int), .slice aw nw cw, .slice ak nk ck] 72)).alloc (.cells #[.int .i64 (c : Int), .int .i64 (k : Int)] 124))
  have hmul : ∀ v : Int, -1 ≤ v → v ≤ 9 → -8 ≤ v * (W : Int) ∧ v * (W : Int) ≤ 72 := fun v h1 h2 => by
    have a1 : (W : Int) = 1 ∨ (W : Int) = 2 ∨ (W : Int) = 3 ∨ (W : Int) = 4 ∨ (W : Int) = 5 ∨ (W : Int) = 6 ∨ (W : Int) = 7 ∨ (W : Int) = 8 := by omega
    rcases a1 with e | e | e | e | e | e | e | e <;> rw [e] <;> omega
  have hvx : -1 ≤ mx k (x : Int) ∧ mx k (x : Int) ≤ 9 := by unfold mx; split <;> (try split) <;> omega
  have hvy : -1 ≤ my k (y : Int) ∧ my k (y : Int) ≤ 9 := by unfold my; split <;> (try split) <;> omega
  have hk4 : k = 0 ∨ k = 1 ∨ k = 2 ∨ k = 3 := by omega
  have HM := Lib.hid hmul
  clear hmul hm hc
  rcases hk4 with rfl | rfl | rfl | rfl
  all_goals
    simp only [mx, my, if_true, if_false, reduceIte, Nat.reduceEqDiff, (show ¬ (0 : Nat) = 1 by decide), (show ¬ (0 : Nat) = 3 by decide), (show ¬ (1 : Nat) = 0 by decide), (show ¬ (1 : Nat) = 2 by decide), (show ¬ (2 : Nat) = 0 by decide), (show ¬ (2 : Nat) = 1 by decide), (show ¬ (2 : Nat) = 3 by decide), (show ¬ (3 : Nat) = 0 by decide), (show ¬ (3 : Nat) = 1 by decide), (show ¬ (3 : Nat) = 2 by decide)] at hvx hvy ⊢
  · have q1 := (HM.out _ hvy.1 hvy.2).1
    have q2 := (HM.out _ hvy.1 hvy.2).2
    have wm : IntKind.i64.wrap (((y : Int)) * (W : Int)) = ((y : Int)) * (W : Int) := wrapi64 _ (by omega) (by omega)
    have wa : IntKind.i64.wrap (((y : Int)) * (W : Int) + ((x : Int) + 1)) = ((y : Int)) * (W : Int) + ((x : Int) + 1) := wrapi64 _ (by omega) (by omega)
    obtain ⟨r, hr⟩ : ∃ r, r = nxy W H ((x : Int) + 1) ((y : Int)) := ⟨_, rfl⟩
    have HR := Lib.hid hr
    rw [← hr]
    clear hr
    cases hb : inn 0 ((W : Int) - 1) [(x : Int) + 1]
    · have HB := Lib.hid hb; clear hb
      go_enter Tryz.func113, Tryz.ntmps113
      go_wp2
      go_quiet (fail)
      go_wp2_with fail
      refine (within1 0 ((W : Int) - 1) ((x : Int) + 1) _ _ (by simp)).mono ?_
      rintro e w1 ⟨rfl, rfl⟩
      rw [HB.out]
      go_wp2
      go_ret
      refine ⟨ret_int ?_, ((E0.out.drewN _).alloc _)⟩
      rw [HR.out]; unfold nxy; rw [HB.out, if_neg (by simp)]
    · have HB := Lib.hid hb; clear hb
      cases hd : inn 0 ((H : Int) - 1) [(y : Int)]
      all_goals
        have HD := Lib.hid hd; clear hd
        go_enter Tryz.func113, Tryz.ntmps113
        go_wp2
        go_quiet (fail)
        go_wp2_with fail
        refine (within1 0 ((W : Int) - 1) ((x : Int) + 1) _ _ (by simp)).mono ?_
        rintro e w1 ⟨rfl, rfl⟩
        rw [HB.out]
        go_wp2_with fail
        refine (within1 0 ((H : Int) - 1) ((y : Int)) _ _ (by simp)).mono ?_
        rintro e w1 ⟨rfl, rfl⟩
        rw [HD.out]
        go_wp2
        go_ret
        refine ⟨ret_int ?_, (((E0.out.drewN _).alloc _).alloc _)⟩
        rw [HR.out]; unfold nxy; rw [HB.out, HD.out]; simp
  · have q1 := (HM.out _ hvy.1 hvy.2).1
    have q2 := (HM.out _ hvy.1 hvy.2).2
    have wm : IntKind.i64.wrap (((y : Int) + 1) * (W : Int)) = ((y : Int) + 1) * (W : Int) := wrapi64 _ (by omega) (by omega)
    have wa : IntKind.i64.wrap (((y : Int) + 1) * (W : Int) + ((x : Int))) = ((y : Int) + 1) * (W : Int) + ((x : Int)) := wrapi64 _ (by omega) (by omega)
    obtain ⟨r, hr⟩ : ∃ r, r = nxy W H ((x : Int)) ((y : Int) + 1) := ⟨_, rfl⟩
    have HR := Lib.hid hr
    rw [← hr]
    clear hr
    cases hb : inn 0 ((W : Int) - 1) [(x : Int)]
    · have HB := Lib.hid hb; clear hb
      go_enter Tryz.func113, Tryz.ntmps113
      go_wp2
      go_quiet (fail)
      go_wp2_with fail
      refine (within1 0 ((W : Int) - 1) ((x : Int)) _ _ (by simp)).mono ?_
      rintro e w1 ⟨rfl, rfl⟩
      rw [HB.out]
      go_wp2
      go_ret
      refine ⟨ret_int ?_, ((E0.out.drewN _).alloc _)⟩
      rw [HR.out]; unfold nxy; rw [HB.out, if_neg (by simp)]
    · have HB := Lib.hid hb; clear hb
      cases hd : inn 0 ((H : Int) - 1) [(y : Int) + 1]
      all_goals
        have HD := Lib.hid hd; clear hd
        go_enter Tryz.func113, Tryz.ntmps113
        go_wp2
        go_quiet (fail)
        go_wp2_with fail
        refine (within1 0 ((W : Int) - 1) ((x : Int)) _ _ (by simp)).mono ?_
        rintro e w1 ⟨rfl, rfl⟩
        rw [HB.out]
        go_wp2_with fail
        refine (within1 0 ((H : Int) - 1) ((y : Int) + 1) _ _ (by simp)).mono ?_
        rintro e w1 ⟨rfl, rfl⟩
        rw [HD.out]
        go_wp2
        go_ret
        refine ⟨ret_int ?_, (((E0.out.drewN _).alloc _).alloc _)⟩
        rw [HR.out]; unfold nxy; rw [HB.out, HD.out]; simp
  · have q1 := (HM.out _ hvy.1 hvy.2).1
    have q2 := (HM.out _ hvy.1 hvy.2).2
    have wm : IntKind.i64.wrap (((y : Int)) * (W : Int)) = ((y : Int)) * (W : Int) := wrapi64 _ (by omega) (by omega)
    have wa : IntKind.i64.wrap (((y : Int)) * (W : Int) + ((x : Int) - 1)) = ((y : Int)) * (W : Int) + ((x : Int) - 1) := wrapi64 _ (by omega) (by omega)
    obtain ⟨r, hr⟩ : ∃ r, r = nxy W H ((x : Int) - 1) ((y : Int)) := ⟨_, rfl⟩
    have HR := Lib.hid hr
    rw [← hr]
    clear hr
    cases hb : inn 0 ((W : Int) - 1) [(x : Int) - 1]
    · have HB := Lib.hid hb; clear hb
      go_enter Tryz.func113, Tryz.ntmps113
      go_wp2
      go_quiet (fail)
      go_wp2_with fail
      refine (within1 0 ((W : Int) - 1) ((x : Int) - 1) _ _ (by simp)).mono ?_
      rintro e w1 ⟨rfl, rfl⟩
      rw [HB.out]
      go_wp2
      go_ret
      refine ⟨ret_int ?_, ((E0.out.drewN _).alloc _)⟩
      rw [HR.out]; unfold nxy; rw [HB.out, if_neg (by simp)]
    · have HB := Lib.hid hb; clear hb
      cases hd : inn 0 ((H : Int) - 1) [(y : Int)]
      all_goals
        have HD := Lib.hid hd; clear hd
        go_enter Tryz.func113, Tryz.ntmps113
        go_wp2
        go_quiet (fail)
        go_wp2_with fail
        refine (within1 0 ((W : Int) - 1) ((x : Int) - 1) _ _ (by simp)).mono ?_
        rintro e w1 ⟨rfl, rfl⟩
        rw [HB.out]
        go_wp2_with fail
        refine (within1 0 ((H : Int) - 1) ((y : Int)) _ _ (by simp)).mono ?_
        rintro e w1 ⟨rfl, rfl⟩
        rw [HD.out]
        go_wp2
        go_ret
        refine ⟨ret_int ?_, (((E0.out.drewN _).alloc _).alloc _)⟩
        rw [HR.out]; unfold nxy; rw [HB.out, HD.out]; simp
  · have q1 := (HM.out _ hvy.1 hvy.2).1
    have q2 := (HM.out _ hvy.1 hvy.2).2
    have wm : IntKind.i64.wrap (((y : Int) - 1) * (W : Int)) = ((y : Int) - 1) * (W : Int) := wrapi64 _ (by omega) (by omega)
    have wa : IntKind.i64.wrap (((y : Int) - 1) * (W : Int) + ((x : Int))) = ((y : Int) - 1) * (W : Int) + ((x : Int)) := wrapi64 _ (by omega) (by omega)
    obtain ⟨r, hr⟩ : ∃ r, r = nxy W H ((x : Int)) ((y : Int) - 1) := ⟨_, rfl⟩
    have HR := Lib.hid hr
    rw [← hr]
    clear hr
    cases hb : inn 0 ((W : Int) - 1) [(x : Int)]
    · have HB := Lib.hid hb; clear hb
      go_enter Tryz.func113, Tryz.ntmps113
      go_wp2
      go_quiet (fail)
      go_wp2_with fail
      refine (within1 0 ((W : Int) - 1) ((x : Int)) _ _ (by simp)).mono ?_
      rintro e w1 ⟨rfl, rfl⟩
      rw [HB.out]
      go_wp2
      go_ret
      refine ⟨ret_int ?_, ((E0.out.drewN _).alloc _)⟩
      rw [HR.out]; unfold nxy; rw [HB.out, if_neg (by simp)]
    · have HB := Lib.hid hb; clear hb
      cases hd : inn 0 ((H : Int) - 1) [(y : Int) - 1]
      all_goals
        have HD := Lib.hid hd; clear hd
        go_enter Tryz.func113, Tryz.ntmps113
        go_wp2
        go_quiet (fail)
        go_wp2_with fail
        refine (within1 0 ((W : Int) - 1) ((x : Int)) _ _ (by simp)).mono ?_
        rintro e w1 ⟨rfl, rfl⟩
        rw [HB.out]
        go_wp2_with fail
        refine (within1 0 ((H : Int) - 1) ((y : Int) - 1) _ _ (by simp)).mono ?_
        rintro e w1 ⟨rfl, rfl⟩
        rw [HD.out]
        go_wp2
        go_ret
        refine ⟨ret_int ?_, (((E0.out.drewN _).alloc _).alloc _)⟩
        rw [HR.out]; unfold nxy; rw [HB.out, HD.out]; simp
end Go.Proofs.YtppjnpempgpkaaaGreat
