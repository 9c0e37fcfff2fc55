/- Contracts of cmp.Or, slices.Max, the two orders, and strictlyIncreasing. -/
import Derived.Test.YtlgdnbpboonhdaaM6
import Derived.Test.YtlgdnbpboonhdaaV
import Derived.StillTailTactics
namespace Go.Proofs.Ytlgdnbpboonhdaa
open Go.RowKit
set_option linter.unusedVariables false
/-- The first number that is not 0. -/
def orL : List Int → Int
  | [] => 0
  | x :: l => if x = 0 then orL l else x
theorem orL_zero (xs : List Int) (k : Nat) (x : Int) (h : xs[k]? = some x) (h0 : ∀ y ∈ xs.take k, y = 0) (hx : x ≠ 0) : orL xs = x := by
  induction xs generalizing k with
  | nil => simp at h
  | cons y l ih =>
    cases k with
    | zero => simp at h; subst h; simp [orL, hx]
    | succ k =>
      have : y = 0 := h0 y (by simp)
      simp only [orL, this, if_true]
      exact ih k (by simpa using h) fun z hz => h0 z (by simp [hz])
theorem orL_all (xs : List Int) (h0 : ∀ y ∈ xs, y = 0) : orL xs = 0 := by
  induction xs with
  | nil => rfl
  | cons y l ih => simp only [orL, h0 y (by simp), if_true]; exact ih fun z hz => h0 z (by simp [hz])
theorem or95_any (v : Value) (xs : List Int) (w : World) (hx : Reads w v xs) :
    Calls Try.prog 95 #[v] w fun e w' => e = .returned (.int .i64 (orL xs)) ∧ w = w' := by
  obtain ⟨hl, a, cap, rfl⟩ := hx.shape
  have hl2 : xs.length ≤ 9223372036854775807 := by omega
  have HR := Lib.hid hx; clear hx
  go_enter Try.func95, Try.ntmps95
  go_wp2
  go_loop [8] (fun i => ∃ k : Nat, k ≤ xs.length ∧ i = .int .i64 k ∧ Hid (∀ y ∈ xs.take k, y = 0)) (fun i => xs.length - (intOf i).toNat)
  case atStart => exact ⟨0, Nat.zero_le _, rfl, by simp [Hid]⟩
  case round =>
    obtain ⟨k, hk, rfl, hI⟩ := hrel
    by_cases hlt : k < xs.length
    · obtain ⟨b, off, x, rfl, hx, hck⟩ := HR.out.at hlt
      have HX := Lib.hid hx; clear hx
      by_cases hx0 : x = 0
      · subst hx0
        go_wp2
        go_round
        case rel => exact ⟨k + 1, by omega, by go_num, (by rw [take_snoc HX.out]; intro y hy; simp at hy; rcases hy with hy | hy; exact hI.out y hy; exact hy : ∀ _ ∈ _, _)⟩
        case measure => simp [intOf]; omega
      · have hd : (x != 0) = true := by simpa using hx0
        have H0 := Lib.hid hx0; clear hx0
        go_wp2
        go_ret
        exact ⟨ret_int (orL_zero xs k x HX.out hI.out H0.out).symm, rfl⟩
    · go_wp2
      go_ret
      obtain rfl : k = xs.length := by omega
      have := hI.out
      rw [List.take_of_length_le (Nat.le_refl _)] at this
      exact ⟨ret_int (orL_all xs this).symm, rfl⟩
def maxL : List Int → Int
  | [] => 0
  | x :: l => l.foldl max x
theorem max92_any (v : Value) (x0 : Int) (xs : List Int) (w : World) (hx : Reads w v (x0 :: xs)) :
    Calls Try.prog 92 #[v] w fun e w' => e = .returned (.int .i64 (xs.foldl max x0)) ∧ w = w' := by
  obtain ⟨hl, a, cap, rfl⟩ := hx.shape
  obtain ⟨ys, hys⟩ : ∃ ys, ys = x0 :: xs := ⟨_, rfl⟩
  obtain ⟨b, off, x, rfl, hx0, hc0⟩ := hx.at (k := 0) (by simp)
  simp at hx0; subst hx0
  rw [Nat.add_zero] at hc0
  rw [← hys] at hx hl ⊢
  have hp : 0 < ys.length := by rw [hys]; simp
  have hl2 : ys.length ≤ 9223372036854775807 := by omega
  have HR := Lib.hid hx; have HY := Lib.hid hys; clear hx hys
  have hlt1 : ¬ (ys.length : Int) < 1 := by omega
  have hk0 : (0 : Int) < (ys.length : Int) := by omega
  go_enter Try.func92, Try.ntmps92
  go_wp2
  go_loop [3, 4] (fun m i => ∃ k : Nat, 1 ≤ k ∧ k ≤ ys.length ∧ i = .int .i64 k ∧ ∃ q, m = .int .i64 q ∧ Hid (q = (xs.take (k - 1)).foldl max x0)) (fun m i => ys.length - (intOf i).toNat)
  case atStart => exact ⟨1, Nat.le_refl _, by omega, rfl, _, rfl, rfl⟩
  case round =>
    obtain ⟨k, hk1, hk, rfl, q, rfl, hI⟩ := hrel
    by_cases hlt : k < ys.length
    · obtain ⟨b', off', x, e, hx, hck⟩ := HR.out.at hlt
      cases e
      have HX := Lib.hid hx; clear hx
      go_wp2
      go_round
      case rel =>
        refine ⟨k + 1, by omega, by omega, by go_num, _, rfl, (?_ : _ = _)⟩
        have h1 := HX.out
        rw [HY.out] at h1
        have h2 : xs[k - 1]? = some x := by
          obtain ⟨j, rfl⟩ : ∃ j, k = j + 1 := ⟨k - 1, by omega⟩
          simpa using h1
        rw [show k + 1 - 1 = (k - 1) + 1 by omega, take_snoc h2, List.foldl_append, ← hI.out]
        simp only [List.foldl_cons, List.foldl_nil]
        split <;> omega
      case measure => simp [intOf]; omega
    · go_wp2
      go_ret
      obtain rfl : k = ys.length := by omega
      have h1 := hI.out
      have h2 := HY.out
      rw [h2] at h1
      simp at h1
      exact ⟨ret_int h1, rfl⟩
/-- Each number is greater than the one before it. -/
def inc (xs : List Int) : Bool := (List.range' 1 (xs.length - 1)).all fun i => decide (xs[i - 1]?.getD 0 < xs[i]?.getD 0)
theorem inc85_any (v : Value) (xs : List Int) (w : World) (hx : Reads w v xs) :
    Calls Try.prog 85 #[v] w fun e w' => e = .returned (.bool (inc xs)) ∧ Ext w w' := by
  obtain ⟨hl, a, cap, rfl⟩ := hx.shape
  have hl2 : xs.length ≤ 9223372036854775807 := by omega
  have HR := Lib.hid hx; clear hx
  go_enter Try.func85, Try.ntmps85
  go_wp2
  go_loopw [3] (fun i wr => ∃ k : Nat, 1 ≤ k ∧ i = .int .i64 k ∧ Hid (Ext w wr) ∧ Hid (k ≤ max 1 xs.length ∧ ∀ i, 1 ≤ i → i < k → xs[i - 1]?.getD 0 < xs[i]?.getD 0)) (fun i wr => xs.length - (intOf i).toNat)
  case atStart => exact ⟨1, Nat.le_refl _, rfl, Ext.refl _, by omega, fun i h1 h2 => by omega⟩
  case round =>
    obtain ⟨k, hk1, rfl, hE, hI⟩ := hrel
    by_cases hlt : k < xs.length
    · obtain ⟨b, off, x, rfl, hx, hck⟩ := (HR.out.ext hE.out).at hlt
      obtain ⟨b', off', y, e, hy, hcy⟩ := (HR.out.ext hE.out).at (k := k - 1) (by omega)
      cases e
      have HX := Lib.hid hx; have HY := Lib.hid hy; clear hx hy
      have hka : (0 : Int) ≤ (k : Int) := by omega
      have hkb : (k : Int) < (xs.length : Int) := by omega
      have hkc : (0 : Int) ≤ (k : Int) - 1 := by omega
      have hkd : (k : Int) - 1 < (xs.length : Int) := by omega
      have gx : xs[k]?.getD 0 = x := by rw [HX.out]; rfl
      have gy : xs[k - 1]?.getD 0 = y := by rw [HY.out]; rfl
      have GX := Lib.hid gx; have GY := Lib.hid gy; clear gx gy
      by_cases hxy : x ≤ y
      · go_wp2
        go_quiet (fail)
        go_wp2
        go_ret
        refine ⟨ret_bool ?_, hE.out.drewN _⟩
        cases h : inc xs
        · rfl
        · have := List.all_eq_true.1 h k (List.mem_range'_1.2 (by omega))
          simp only [GX.out, GY.out, decide_eq_true_eq] at this
          omega
      · have HXY := Lib.hid (show y < x by omega)
        go_wp2
        go_quiet (fail)
        go_wp2
        go_roundw
        case rel =>
          refine ⟨k + 1, by omega, by go_num, hE.out.drewN _, (⟨by omega, fun i h1 h2 => ?_⟩ : _ ∧ _)⟩
          by_cases hik : i = k
          · subst hik; rw [GX.out, GY.out]; exact HXY.out
          · exact hI.out.2 i h1 (by omega)
        case measure => simp [intOf]; omega
    · go_wp2
      go_ret
      refine ⟨ret_bool ?_, hE.out⟩
      symm
      refine List.all_eq_true.2 fun i hi => ?_
      simp only [List.mem_range'_1] at hi
      simp only [decide_eq_true_eq]
      have := hI.out.1
      exact hI.out.2 i (by omega) (by omega)
theorem fewest74_any (a b : Nat) (ha : a < 1024) (hb : b < 1024) (w : World) : Calls Try.prog 74 #[.int .i64 (a : Int), .int .i64 (b : Int)] w fun e w' =>
    e = .returned (.int .i64 (orL [cmpI (pc a) (pc b), cmpI (bits .and .i64 b (bits .and .i64 ((a ^^^ b : Nat) : Int) (-((a ^^^ b : Nat) : Int)))) (bits .and .i64 a (bits .and .i64 ((a ^^^ b : Nat) : Int) (-((a ^^^ b : Nat) : Int))))])) ∧ Ext w w' := by
  have hx := xor_nat a b ha hb
  have h2 : a ^^^ b < 1024 := Nat.xor_lt_two_pow (n := 10) (by omega) (by omega)
  obtain ⟨d, hd⟩ : ∃ d, d = a ^^^ b := ⟨_, rfl⟩
  rw [← hd] at hx h2 ⊢
  have HD := Lib.hid hd; clear hd
  go_enter Try.func74, Try.ntmps74
  go_wp2_with fail
  refine (count_any _ ha _).mono ?_
  rintro e w' ⟨rfl, rfl⟩
  go_wp2_with fail
  refine (count_any _ hb _).mono ?_
  rintro e w' ⟨rfl, rfl⟩
  go_wp2_with fail
  refine (cmp_any _ _ _).mono ?_
  rintro e w' ⟨rfl, rfl⟩
  go_wp2_with fail
  refine (cmp_any _ _ _).mono ?_
  rintro e w' ⟨rfl, rfl⟩
  go_wp2_with fail
  refine (or95_any _ [cmpI (pc a) (pc b), cmpI (bits .and .i64 b (bits .and .i64 (d : Int) (-(d : Int)))) (bits .and .i64 a (bits .and .i64 (d : Int) (-(d : Int))))] _ ?_).mono ?_
  · exact Reads.new _ _ _ _ rfl (by simp) _ rfl _ _ rfl
  rintro e w' ⟨rfl, rfl⟩
  go_wp2
  go_ret
  exact ⟨rfl, (Ext.refl _).alloc _⟩
theorem inOrder67_any (a b c d : Int) (w : World) : Calls Try.prog 67 #[.agg #[.int .i64 a, .int .i64 b], .agg #[.int .i64 c, .int .i64 d]] w fun e w' =>
    e = .returned (.int .i64 (orL [cmpI a c, cmpI b d])) ∧ Ext w w' := by
  go_enter Try.func67, Try.ntmps67
  go_wp2
  have g1 : ((w.alloc (.cells #[.int .i64 a, .int .i64 b] 76)).alloc (.cells #[.int .i64 c, .int .i64 d] 76)).cell? ⟨w.heap.size, 0, none⟩ = some (.int .i64 a) := by go_simp
  have g2 : ((w.alloc (.cells #[.int .i64 a, .int .i64 b] 76)).alloc (.cells #[.int .i64 c, .int .i64 d] 76)).cell? ⟨w.heap.size, 1, none⟩ = some (.int .i64 b) := by go_simp
  have g3 : ((w.alloc (.cells #[.int .i64 a, .int .i64 b] 76)).alloc (.cells #[.int .i64 c, .int .i64 d] 76)).cell? ⟨w.heap.size + 1, 0, none⟩ = some (.int .i64 c) := by go_simp
  have g4 : ((w.alloc (.cells #[.int .i64 a, .int .i64 b] 76)).alloc (.cells #[.int .i64 c, .int .i64 d] 76)).cell? ⟨w.heap.size + 1, 1, none⟩ = some (.int .i64 d) := by go_simp
  have G0 := Lib.hid (((Ext.refl w).alloc (.cells #[.int .i64 a, .int .i64 b] 76)).alloc (.cells #[.int .i64 c, .int .i64 d] 76))
  generalize ((w.alloc (.cells #[.int .i64 a, .int .i64 b] 76)).alloc (.cells #[.int .i64 c, .int .i64 d] 76)) = W at *
  go_region_held3 (fun X => X.cell? ⟨w.heap.size, 0, none⟩ = some (.int .i64 a) ∧ X.cell? ⟨w.heap.size, 1, none⟩ = some (.int .i64 b) ∧ X.cell? ⟨w.heap.size + 1, 0, none⟩ = some (.int .i64 c) ∧ X.cell? ⟨w.heap.size + 1, 1, none⟩ = some (.int .i64 d) ∧ Hid (Ext W X))
    (first | assumption | exact ⟨g1, g2, g3, g4, Ext.drew (Ext.refl _)⟩ | (have hk := Ext.alloc (Ext.drew (Ext.refl W)) (.cells #[.int .i64 (cmpI a c), .int .i64 (cmpI b d)] 3); exact ⟨cell_ext hk g1, cell_ext hk g2, cell_ext hk g3, cell_ext hk g4, hk⟩))
    (first | (go_at_call 96; refine (cmp_any _ _ _).mono ?_; rintro e w' ⟨rfl, rfl⟩) | (go_at_call 95; refine (or95_any _ [cmpI a c, cmpI b d] _ ((Reads.new W [cmpI a c, cmpI b d] 3 W.heap.size rfl (by simp) _ rfl 2 2 rfl).ext (Ext.drew (Ext.refl _)))).mono ?_; rintro e w' ⟨rfl, rfl⟩))
  all_goals
    go_wp2
    go_ret
    exact ⟨rfl, G0.out.trans (Ext.drew ((Ext.refl _).alloc _))⟩
end Go.Proofs.Ytlgdnbpboonhdaa
