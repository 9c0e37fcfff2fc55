/- The iterator pairs: what it yields, for every loop body that keeps what lay before. -/
import Derived.RangeFuncNested
import Derived.RangeFuncBound
import Derived.RangeFuncCalls
import Derived.RangeFuncLeaves
import Derived.Shelf.Abstract
import Derived.Shelf.RegionOpen
import Derived.OwnWalkIn
import Derived.TacticsInMore
import Derived.LoopNIn
import Derived.LoopIn
import Derived.RegionIn
import Derived.Test.YtlgdnbpboonhdaaM9
namespace Go.Proofs.Ytlgdnbpboonhdaa
open Go.RowKit Go.Shelf
set_option linter.unusedVariables false
attribute [local go_sem] Oper.semAt_some

theorem pairs90 (b : Nat) (w : World) : Calls Try.prog 90 #[.pointer (some ⟨b, 0, none⟩)] w fun e w' =>
    e = .returned (.func (.func 105) #[] #[.pointer (some ⟨w.heap.size, 0, none⟩)]) ∧ w' = w.alloc (.cells #[.pointer (some ⟨b, 0, none⟩)] 63) := by
  go_enter Try.func90, Try.ntmps90
  go_wp2
  go_ret
  exact ⟨rfl, rfl⟩
/-- Two owners, the lesser one first. -/
abbrev PairOf (n : Nat) := { p : Nat × Nat // p.1 < p.2 ∧ p.2 < n }
def encP (n : Nat) (x : PairOf n) : Array Value := #[.agg #[.int .i64 (x.1.1 : Int), .int .i64 (x.1.2 : Int)]]
def pvals (n : Nat) (ys : List (PairOf n)) : List (Nat × Nat) := ys.map Subtype.val
theorem pvals_snoc (n : Nat) (ys : List (PairOf n)) (x : PairOf n) : pvals n (ys ++ [x]) = pvals n ys ++ [x.1] := by simp [pvals]
theorem pvals_length (n : Nat) (ys : List (PairOf n)) : (pvals n ys).length = ys.length := by simp [pvals]
/-- The pairs with i first and the second one before k. -/
def rowTo (i k : Nat) : List (Nat × Nat) := (List.range' (i + 1) (k - (i + 1))).map fun j => (i, j)
def rowsTo (n i : Nat) : List (Nat × Nat) := (List.range i).flatMap fun j => rowTo j n
def pairsL (n : Nat) : List (Nat × Nat) := rowsTo n n
theorem rowsTo_succ (n i : Nat) : rowsTo n (i + 1) = rowsTo n i ++ rowTo i n := by simp [rowsTo, List.range_succ]
theorem rowTo_first (i : Nat) : rowTo i (i + 1) = [] := by simp [rowTo]
theorem rowTo_succ (i k : Nat) (h : i + 1 ≤ k) : rowTo i (k + 1) = rowTo i k ++ [(i, k)] := by
  unfold rowTo
  rw [show k + 1 - (i + 1) = (k - (i + 1)) + 1 by omega, List.range'_concat, List.map_append]
  simp; omega
theorem rowsTo_len (n : Nat) (hn : n ≤ 12) (i : Nat) : (rowsTo n i).length ≤ 12 * i := by
  induction i with
  | zero => simp [rowsTo]
  | succ i ih => rw [rowsTo_succ, List.length_append]; simp [rowTo]; omega
theorem rowsTo_pre (n i j : Nat) (h : i ≤ j) : rowsTo n i <+: rowsTo n j := by
  induction j with
  | zero => obtain rfl : i = 0 := by omega
            exact List.prefix_refl _
  | succ j ih =>
    by_cases e : i = j + 1
    · subst e; exact List.prefix_refl _
    · exact (ih (by omega)).trans (by rw [rowsTo_succ]; exact List.prefix_append _ _)
theorem rowTo_pre (i k n : Nat) (h : k ≤ n) : rowTo i k <+: rowTo i n := by
  by_cases hk : k ≤ i
  · have : rowTo i k = [] := by simp [rowTo]; omega
    rw [this]; exact List.nil_prefix
  · induction n with
    | zero => omega
    | succ n ih =>
      by_cases e : k = n + 1
      · subst e; exact List.prefix_refl _
      · exact (ih (by omega)).trans (by rw [rowTo_succ i n (by omega)]; exact List.prefix_append _ _)
theorem part_pre (n i k : Nat) (hi : i < n) (hk : k ≤ n) : rowsTo n i ++ rowTo i k <+: pairsL n := by
  refine List.IsPrefix.trans ?_ (rowsTo_pre n (i + 1) n (by omega))
  rw [rowsTo_succ]
  exact (List.prefix_append_right_inj _).2 (rowTo_pre i k n hk)
set_option maxHeartbeats 2000000 in
theorem pairs105 (f l r b n₀ n cap : Nat) (a : Option Addr) (hn : n ≤ 12) (hf : 1 ≤ f) (J Jx : List (PairOf n) → World → Prop) (W : World)
    (hJ : AbidesFrom W.heap.size J) (hJx : AbidesFrom W.heap.size Jx)
    (hY : ∀ pre x W1, J pre W1 → pre.length < 200 → YieldAt Fence.wide (f - 1) Try.prog l (encP n x) W1 fun e W' =>
      (e = .returned (.bool true) ∧ J (pre ++ [x]) W' ∧ Kp2 n₀ [r] W1 W') ∨ (e = .returned (.bool false) ∧ Jx (pre ++ [x]) W'))
    (hr : W.cell? ⟨r, 0, none⟩ = some (.pointer (some ⟨b, 0, none⟩))) (hm : W.cell? ⟨b, 2, none⟩ = some (.slice a n cap)) (h2 : b < n₀) (h0 : J [] W) :
    CallsIn Fence.wide f Try.prog 105 #[.func (.yield l) #[] #[], .pointer (some ⟨r, 0, none⟩)] W fun e W' => (∃ v, e = .returned v) ∧
      ((∃ ys, pvals n ys = pairsL n ∧ J ys W') ∨ (∃ pre, pvals n pre <+: pairsL n ∧ Jx pre W')) := by
  refine callsIn_of_wp Try.func105 rfl trivial ?_ rfl
  simp only [Try.ntmps105, List.size_toArray, List.length_cons, List.length_nil, Nat.reduceAdd, Nat.reduceSub, Array.replicate_succ, Array.replicate_zero, List.push_toArray, List.append_toArray, List.nil_append, List.cons_append]
  have hn2 : (n : Int) ≤ 12 := by omega
  gi_wp2
  gi_loopw [11] (fun s wr => ∃ (pre : List (PairOf n)) (i : Nat), i ≤ n ∧ s = .int .i64 (i : Int) ∧ Hid (pvals n pre = rowsTo n i) ∧ Hid (J pre wr) ∧ Hid (Kp2 n₀ [r] W wr))
    (fun s wr => n - (intOf s).toNat)
  case atStart => exact ⟨[], 0, Nat.zero_le _, rfl, rfl, h0, Kp2.refl _ _ _⟩
  case round =>
    obtain ⟨pre, i, hi, rfl, hp, hJw, hB⟩ := hrel
    by_cases hlt : i < n
    · gi_wp2
      obtain ⟨wo, rfl⟩ : ∃ wo : World, wo = wr := ⟨_, rfl⟩
      gi_loopw [4] (fun s wr => ∃ (pre : List (PairOf n)) (k : Nat), i + 1 ≤ k ∧ k ≤ n ∧ s = .int .i64 (k : Int) ∧ Hid (pvals n pre = rowsTo n i ++ rowTo i k) ∧ Hid (J pre wr) ∧ Hid (Kp2 n₀ [r] W wr))
        (fun s wr => n - (intOf s).toNat)
      case atStart => exact ⟨pre, i + 1, Nat.le_refl _, by omega, by go_num, (by rw [rowTo_first, List.append_nil]; exact hp.out : _ = _), hJw, hB⟩
      case round =>
        obtain ⟨pre2, k, hk1, hk, rfl, hp2, hJ2, hB2⟩ := hrel
        have g1 := hB2.out.cell (Or.inr (by simp)) hr
        have g2 := hB2.out.cell (Or.inl h2) hm
        by_cases hlt2 : k < n
        · have hpl : pre2.length < 200 := by
            have h3 := rowsTo_len n hn i
            have h4 := congrArg List.length hp2.out
            rw [pvals_length, List.length_append] at h4
            simp [rowTo] at h4; omega
          obtain ⟨fn, tmps, assign, body, hy, hR⟩ := hY pre2 ⟨(i, k), by omega, hlt2⟩ wr hJ2.out hpl
          have HRR := Lib.hid hR; clear hR
          dsimp only [encP] at hy
          gi_wp2
          refine HRR.out.mono ?_
          rintro e W3 (⟨rfl, hJ3, hk3⟩ | ⟨rfl, hJx3⟩)
          · have HJ3 := Lib.hid hJ3; have HK3 := Lib.hid hk3; clear hJ3 hk3 HRR g1 g2
            gi_wp2
            go_roundw
            case rel => exact ⟨pre2 ++ [(⟨(i, k), by omega, hlt2⟩ : PairOf n)], k + 1, by omega, by omega, by go_num, (by rw [pvals_snoc, hp2.out, rowTo_succ i k hk1, List.append_assoc] : _ = _), HJ3.out, hB2.out.trans HK3.out⟩
            case measure => simp [intOf]; omega
          · have HJx3 := Lib.hid hJx3; clear hJx3 HRR
            gi_wp2
            refine bodyPost_ret (results_none rfl _ _ _) rfl ?_
            refine ⟨⟨_, rfl⟩, .inr ⟨_, ?_, HJx3.out⟩⟩
            rw [pvals_snoc, hp2.out, List.append_assoc, ← rowTo_succ i k hk1]
            exact part_pre n i (k + 1) hlt (by omega)
        · obtain rfl : k = n := by omega
          gi_wp2
          go_roundw
          case rel => exact ⟨pre2, i + 1, by omega, by go_num, (by rw [rowsTo_succ]; exact hp2.out : _ = _), hJ2, hB2⟩
          case measure => simp [intOf]; omega
    · obtain rfl : i = n := by omega
      gi_wp2
      go_end0
      exact ⟨⟨_, rfl⟩, .inl ⟨pre, hp.out, hJw.out⟩⟩
/-- pairs' closure, as the loops' law asks it. -/
theorem pairs_stops (f r b n₀ n cap : Nat) (a : Option Addr) (hn : n ≤ 12) (hf : 1 ≤ f) (w : World) (hr : w.cell? ⟨r, 0, none⟩ = some (.pointer (some ⟨b, 0, none⟩))) (hm : w.cell? ⟨b, 2, none⟩ = some (.slice a n cap)) (h2 : b < n₀) (hn0 : n₀ ≤ w.heap.size) :
    SeqStopsK Fence.wide f Try.prog 105 #[.pointer (some ⟨r, 0, none⟩)] (encP n) (Kp2 n₀ [r]) (fun ys => pvals n ys = pairsL n) (fun pre => pvals n pre <+: pairsL n) 200 w := fun l J Jx W hW hJ hJx hY h0 =>
  pairs105 f l r b n₀ n cap a hn hf J Jx W hJ hJx hY (cell_ext hW hr) (cell_ext hW hm) h2 h0
end Go.Proofs.Ytlgdnbpboonhdaa
