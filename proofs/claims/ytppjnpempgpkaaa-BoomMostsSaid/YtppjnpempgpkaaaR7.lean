/- The reference: Most, by its contract. -/
import Derived.Test.YtppjnpempgpkaaaK8
import Derived.Test.YtppjnpempgpkaaaH7
import Derived.Test.YtppjnpempgpkaaaH6
import Derived.Test.YtppjnpempgpkaaaN3
import Derived.Test.YtppjnpempgpkaaaK1
namespace Go.Proofs.Ytppjnpempgpkaaa
open Go.RowKit Go.Shelf
set_option linter.unusedVariables false
set_option linter.unusedSimpArgs false
attribute [local go_sem] Oper.semAt_some

set_option maxRecDepth 100000 in
set_option maxHeartbeats 1000000 in
theorem rmost_range (s x y : Int) (w : World) (h : inn 1 8 [x, y] = false) : Calls Try.prog 31 #[.int .i64 s, .int .i64 x, .int .i64 y] w fun e w' => e = .returned (.tuple #[.int .i64 0, .int .i64 0, .int .i64 0, .int .i64 3]) ∧ w' = w := by
  have hin : ¬ ((1 ≤ x ∧ x ≤ 8) ∧ 1 ≤ y ∧ y ≤ 8) := fun hh => by
    have : inn 1 8 [x, y] = true := inn_mem.2 fun z hz => by simp at hz; rcases hz with rfl | rfl <;> omega
    rw [h] at this; cases this
  have hq : ∃ q1 q2 q3 q4 : Bool, decide (x < 1) = q1 ∧ decide (8 < x) = q2 ∧ decide (y < 1) = q3 ∧ decide (8 < y) = q4 ∧ (q1 || q2 || q3 || q4) = true := ⟨_, _, _, _, rfl, rfl, rfl, rfl, (by simp; omega)⟩
  obtain ⟨q1, q2, q3, q4, hq1, hq2, hq3, hq4, hqq⟩ := hq
  clear h hin
  go_enter Try.func31, Try.ntmps31
  cases q1 <;> cases q2 <;> cases q3 <;> cases q4 <;> first
    | (exfalso; revert hqq; decide)
    | (go_wp2
       refine bodyPost_ret (by first | (simp [results, Try.results31, go_sem]; done) | (simp [results, Try.results31, go_sem]; rfl)) rfl ?_
       exact ⟨rfl, rfl⟩)
theorem in_box {x y : Int} (h : inn 1 8 [x, y] = true) : (1 ≤ x ∧ x ≤ 8) ∧ 1 ≤ y ∧ y ≤ 8 := ⟨inn_mem.1 h x (by simp), inn_mem.1 h y (by simp)⟩
set_option maxRecDepth 100000 in
set_option maxHeartbeats 1000000 in
theorem rmost_none (s x y : Int) (w : World) (h : inn 1 8 [x, y] = true) (hs : s < 4) : Calls Try.prog 31 #[.int .i64 s, .int .i64 x, .int .i64 y] w fun e w' => e = .returned (.tuple #[.int .i64 0, .int .i64 0, .int .i64 0, .int .i64 5]) ∧ w' = w := by
  have hin := in_box h
  have hq1 : decide (x < 1) = false := decide_eq_false (by omega)
  have hq2 : decide ((8 : Int) < x) = false := decide_eq_false (by omega)
  have hq3 : decide (y < 1) = false := decide_eq_false (by omega)
  have hq4 : decide ((8 : Int) < y) = false := decide_eq_false (by omega)
  clear h hin
  go_enter Try.func31, Try.ntmps31
  go_wp2
  refine bodyPost_ret (by first | (simp [results, Try.results31, go_sem]; done) | (simp [results, Try.results31, go_sem]; rfl)) rfl ?_
  exact ⟨rfl, rfl⟩
/-- One box more. -/
def mstep (s : Int) (st : BoxT × Nat) (x : BoxT) : BoxT × Nat := if ((2 * (x.1 + x.2) : Nat) : Int) ≤ s ∧ st.2 < x.1 * x.2 then (x, x.1 * x.2) else st
def mrun (s : Int) (W H n : Nat) : BoxT × Nat := ((bxs W H).take n).foldl (mstep s) ((0, 0), 0)
theorem mrun_succ {s : Int} {W H n : Nat} {x : BoxT} (h : (bxs W H)[n]? = some x) : mrun s W H (n + 1) = mstep s (mrun s W H n) x := by
  unfold mrun; rw [take_snoc h, List.foldl_append]; rfl
theorem mrun_best (s : Int) (W H : Nat) : mrun s W H (W * H) = bst ((bxs W H).filter fun p => decide (((2 * (p.1 + p.2) : Nat) : Int) ≤ s)) := by
  unfold mrun bst
  rw [List.take_of_length_le (by rw [bxs_len]; exact Nat.le_refl _), List.foldl_filter]
  congr 1
  funext st x
  unfold mstep
  by_cases h1 : ((2 * (x.1 + x.2) : Nat) : Int) ≤ s
  · rw [decide_eq_true h1]
    by_cases h2 : st.2 < x.1 * x.2
    · rw [if_pos ⟨h1, h2⟩]; simp [h2]
    · rw [if_neg (fun h => h2 h.2)]; simp [h2]
  · rw [decide_eq_false h1, if_neg (fun h => h1 h.1)]; simp
theorem bst_snd : ∀ L : List BoxT, (bst L).2 = (bst L).1.1 * (bst L).1.2 := by
  intro L
  have : ∀ k, k ≤ L.length → (bst (L.take k)).2 = (bst (L.take k)).1.1 * (bst (L.take k)).1.2 := by
    intro k
    induction k with
    | zero => intro _; rfl
    | succ k ih =>
      intro hk
      obtain ⟨x, hx⟩ := get_some (xs := L) (k := k) (by omega)
      rw [bst_snoc hx]
      split
      · rfl
      · exact ih (by omega)
  have h := this L.length (Nat.le_refl _)
  rwa [List.take_length] at h
theorem mrun_end (s : Int) (W H : Nat) : mrun s W H (W * H) = (mostB s W H, (mostB s W H).1 * (mostB s W H).2) := by
  rw [mrun_best]
  unfold mostB
  rw [← bst_snd]
theorem mrun_le (s : Int) (W H n : Nat) (hW : W ≤ 8) (hH : H ≤ 8) : (mrun s W H n).2 ≤ 64 := by
  induction n with
  | zero => unfold mrun; simp
  | succ n ih =>
    by_cases h : n < (bxs W H).length
    · obtain ⟨x, hx⟩ := get_some h
      rw [mrun_succ hx]
      unfold mstep
      split
      · have := bxs_mem (List.mem_of_getElem? hx)
        exact Nat.mul_le_mul (show x.1 ≤ 8 by omega) (show x.2 ≤ 8 by omega)
      · exact ih
    · unfold mrun at ih ⊢
      rw [List.take_of_length_le (by omega)] at ih ⊢
      exact ih
set_option maxRecDepth 100000 in
set_option maxHeartbeats 4000000 in
theorem rmost_ok (s : Int) (W H : Nat) (w : World) (hW : 1 ≤ W ∧ W ≤ 8) (hH : 1 ≤ H ∧ H ≤ 8) (hs : 4 ≤ s) : Calls Try.prog 31 #[.int .i64 s, .int .i64 (W : Int), .int .i64 (H : Int)] w fun e w' => e = .returned (.tuple #[.int .i64 (((mostB s W H).1 * (mostB s W H).2 : Nat) : Int), .int .i64 ((mostB s W H).1 : Int), .int .i64 ((mostB s W H).2 : Int), .int .i64 0]) ∧ w' = w := by
  have HEND := Lib.hid (mrun_end s W H)
  obtain ⟨⟨ra, rb⟩, hr⟩ : ∃ r, r = mostB s W H := ⟨_, rfl⟩
  rw [← hr] at HEND ⊢
  obtain ⟨rc, hrc⟩ : ∃ rc, rc = ra * rb := ⟨_, rfl⟩
  dsimp only at HEND ⊢
  rw [← hrc] at HEND ⊢
  clear hr hrc
  have hq1 : decide ((W : Int) < 1) = false := decide_eq_false (by omega)
  have hq2 : decide ((8 : Int) < (W : Int)) = false := decide_eq_false (by omega)
  have hq3 : decide ((H : Int) < 1) = false := decide_eq_false (by omega)
  have hq4 : decide ((8 : Int) < (H : Int)) = false := decide_eq_false (by omega)
  have hq5 : decide (s < 4) = false := decide_eq_false (by omega)
  have hq6 : ¬ s < 4 := by omega
  go_enter Try.func31, Try.ntmps31
  go_wp2
  clear hq1 hq2 hq3 hq4 hq5
  go_loopw [10, 11, 12, 13] (fun v0 v1 v2 i wr => ∃ a : Nat, a ≤ W ∧ i = .int .i64 ((a : Int) + 1) ∧ v0 = .int .i64 ((mrun s W H (a * H)).2 : Int) ∧ v1 = .int .i64 ((mrun s W H (a * H)).1.1 : Int) ∧ v2 = .int .i64 ((mrun s W H (a * H)).1.2 : Int) ∧ Hid (wr = w)) (fun v0 v1 v2 i wr => W + 1 - (intOf i).toNat)
  case atStart => exact ⟨0, Nat.zero_le _, by go_num, by rw [Nat.zero_mul]; rfl, by rw [Nat.zero_mul]; rfl, by rw [Nat.zero_mul]; rfl, (by first | exact Lib.hid rfl | exact Lib.hid trivial)⟩
  case round =>
    obtain ⟨a, ha, rfl, rfl, rfl, rfl, hw⟩ := hrel
    obtain rfl := hw.out
    by_cases hlt : a < W
    · have hia : (a : Int) + 1 ≤ (W : Int) := by omega
      have ha8 : (a : Int) ≤ 7 := by omega
      have HM := Lib.hid (fun n => mrun_le s W H n hW.2 hH.2)
      go_wp2
      go_loopw [10, 11, 12, 14] (fun v0 v1 v2 i wr' => ∃ b : Nat, b ≤ H ∧ i = .int .i64 ((b : Int) + 1) ∧ v0 = .int .i64 ((mrun s W H (a * H + b)).2 : Int) ∧ v1 = .int .i64 ((mrun s W H (a * H + b)).1.1 : Int) ∧ v2 = .int .i64 ((mrun s W H (a * H + b)).1.2 : Int) ∧ Hid (wr' = wr)) (fun v0 v1 v2 i wr => H + 1 - (intOf i).toNat)
      case atStart => exact ⟨0, Nat.zero_le _, by go_num, rfl, rfl, rfl, (by first | exact Lib.hid rfl | exact Lib.hid trivial)⟩
      case round =>
        obtain ⟨b, hb, rfl, rfl, rfl, rfl, hw2⟩ := hrel
        obtain rfl := hw2.out
        by_cases hlb : b < H
        · have hib : (b : Int) + 1 ≤ (H : Int) := by omega
          have hb8 : (b : Int) ≤ 7 := by omega
          have HS := Lib.hid (mrun_succ (s := s) (bxs_at hlt hlb))
          have hm := HM.out (a * H + b)
          obtain ⟨st, hst⟩ : ∃ st, st = mrun s W H (a * H + b) := ⟨_, rfl⟩
          rw [← hst] at HS hm ⊢
          obtain ⟨⟨fa, fb⟩, be⟩ := st
          dsimp only at hm ⊢
          obtain ⟨m, hmm⟩ : ∃ m : Nat, m = (a + 1) * (b + 1) := ⟨_, rfl⟩
          have hm64 : m ≤ 64 := by rw [hmm]; exact Nat.mul_le_mul (show a + 1 ≤ 8 by omega) (show b + 1 ≤ 8 by omega)
          have hmi : ((a : Int) + 1) * ((b : Int) + 1) = (m : Int) := by rw [hmm]; push_cast; rfl
          have HS2 := Lib.hid (show mrun s W H (a * H + b + 1) = if ((2 * ((a + 1) + (b + 1)) : Nat) : Int) ≤ s ∧ be < m then ((a + 1, b + 1), m) else ((fa, fb), be) from by rw [HS.out, hmm]; rfl)
          have HW1 := Lib.hid (show IntKind.i64.wrap (m : Int) = (m : Int) from wrapi64 _ (by omega) (by omega))
          have HW2 := Lib.hid (show wrap64 (m : Int) = (m : Int) from by rw [wrap_eq]; exact HW1.out)
          have hcast : ((2 * ((a + 1) + (b + 1)) : Nat) : Int) = 2 * ((a : Int) + 1 + ((b : Int) + 1)) := by push_cast; rfl
          rw [hcast] at HS2
          clear hst hmm HS hcast
          by_cases t1 : 2 * ((a : Int) + 1 + ((b : Int) + 1)) ≤ s
          · by_cases t2 : be < m
            · have HS3 := Lib.hid (HS2.out.trans (if_pos ⟨t1, t2⟩))
              have d1 : decide (2 * ((a : Int) + 1 + ((b : Int) + 1)) ≤ s) = true := decide_eq_true t1
              have t2i : (be : Int) < (m : Int) := by omega
              clear HS2
              have hw1 := HW1.out; have hw3 := HW2.out
              go_wp2
              go_roundw
              case rel => exact ⟨b + 1, by omega, by go_num, by rw [← Nat.add_assoc, HS3.out], by rw [← Nat.add_assoc, HS3.out]; go_num, by rw [← Nat.add_assoc, HS3.out]; go_num, (by first | exact Lib.hid rfl | exact Lib.hid trivial)⟩
              case measure => simp [intOf]; omega
            · have HS3 := Lib.hid (HS2.out.trans (if_neg (fun h => t2 h.2)))
              have d1 : decide (2 * ((a : Int) + 1 + ((b : Int) + 1)) ≤ s) = true := decide_eq_true t1
              have t2i : ¬ (be : Int) < (m : Int) := by omega
              clear HS2
              have hw1 := HW1.out; have hw3 := HW2.out
              go_wp2
              go_roundw
              case rel => exact ⟨b + 1, by omega, by go_num, by rw [← Nat.add_assoc, HS3.out], by rw [← Nat.add_assoc, HS3.out], by rw [← Nat.add_assoc, HS3.out], (by first | exact Lib.hid rfl | exact Lib.hid trivial)⟩
              case measure => simp [intOf]; omega
          · have HS3 := Lib.hid (HS2.out.trans (if_neg (fun h => t1 h.1)))
            have d1 : decide (2 * ((a : Int) + 1 + ((b : Int) + 1)) ≤ s) = false := decide_eq_false t1
            clear HS2
            go_wp2
            go_roundw
            case rel => exact ⟨b + 1, by omega, by go_num, by rw [← Nat.add_assoc, HS3.out], by rw [← Nat.add_assoc, HS3.out], by rw [← Nat.add_assoc, HS3.out], (by first | exact Lib.hid rfl | exact Lib.hid trivial)⟩
            case measure => simp [intOf]; omega
        · obtain rfl : b = H := by omega
          have HE2 := Lib.hid (show (a + 1) * b = a * b + b from by rw [Nat.add_mul, Nat.one_mul])
          go_wp2
          go_roundw
          case rel => exact ⟨a + 1, by omega, by go_num, by rw [HE2.out], by rw [HE2.out], by rw [HE2.out], (by first | exact Lib.hid rfl | exact Lib.hid trivial)⟩
          case measure => simp [intOf]; omega
    · obtain rfl : a = W := by omega
      rw [HEND.out]
      go_wp2
      refine bodyPost_ret (by first | (simp [results, Try.results31, go_sem]; done) | (simp [results, Try.results31, go_sem]; rfl)) rfl ?_
      exact ⟨rfl, rfl⟩
end Go.Proofs.Ytppjnpempgpkaaa
