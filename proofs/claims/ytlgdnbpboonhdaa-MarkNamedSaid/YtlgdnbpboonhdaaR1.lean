/- The iterator wornMarks: what it yields, for every loop body that keeps what lay before. -/
import Derived.RangeFuncNested
import Derived.RangeFuncBound
import Derived.RangeFuncCalls
import Derived.RangeFuncLeaves
import Derived.Shelf.Abstract
import Derived.Shelf.RegionOpen
import Derived.OwnWalkIn
import Derived.TacticsInMore
import Derived.LoopNIn
import Derived.LoopIn
import Derived.RegionIn
import Derived.Test.YtlgdnbpboonhdaaM9
import Derived.Test.YtlgdnbpboonhdaaS
namespace Go.Proofs.Ytlgdnbpboonhdaa
open Go.RowKit Go.Shelf
set_option linter.unusedVariables false
attribute [local go_sem] Oper.semAt_some
/-- wornMarks: the two numbers are boxed; the function value captures the boxes. -/
theorem worn98 (m most : Nat) (w : World) : Calls Try.prog 98 #[.int .i64 (m : Int), .int .i64 (most : Int)] w fun e w' =>
    e = .returned (.func (.func 107) #[] #[.pointer (some ⟨w.heap.size, 0, none⟩), .pointer (some ⟨w.heap.size + 1, 0, none⟩)]) ∧ w' = (w.alloc (.cells #[.int .i64 (m : Int)] 3)).alloc (.cells #[.int .i64 (most : Int)] 3) := by
  go_enter Try.func98, Try.ntmps98
  go_wp2
  go_ret
  exact ⟨rfl, rfl⟩
/-- A set that is contained in m. -/
abbrev SubOf (m : Nat) := { x : Nat // sub x m = true }
def vals (m : Nat) (ys : List (SubOf m)) : List Nat := ys.map Subtype.val
theorem vals_snoc (m : Nat) (ys : List (SubOf m)) (x : SubOf m) : vals m (ys ++ [x]) = vals m ys ++ [x.1] := by simp [vals]
theorem vals_length (m : Nat) (ys : List (SubOf m)) : (vals m ys).length = ys.length := by simp [vals]
def encS (m : Nat) (x : SubOf m) : Array Value := #[.int .i64 (x.1 : Int)]
set_option maxHeartbeats 2000000 in
theorem worn107 (n l Bm Bk n₀ m most : Nat) (hm : m < 1024) (hn : 1 ≤ n) (J Jx : List (SubOf m) → World → Prop) (W : World)
    (hJ : AbidesFrom W.heap.size J) (hJx : AbidesFrom W.heap.size Jx)
    (hY : ∀ pre x W1, J pre W1 → pre.length < 1024 → YieldAt Fence.wide (n - 1) Try.prog l (encS m x) W1 fun e W' =>
      (e = .returned (.bool true) ∧ J (pre ++ [x]) W' ∧ Kp2 n₀ [Bm, Bk] W1 W') ∨ (e = .returned (.bool false) ∧ Jx (pre ++ [x]) W'))
    (hBm : W.cell? ⟨Bm, 0, none⟩ = some (.int .i64 (m : Int))) (hBk : W.cell? ⟨Bk, 0, none⟩ = some (.int .i64 (most : Int))) (h0 : J [] W) :
    CallsIn Fence.wide n Try.prog 107 #[.func (.yield l) #[] #[], .pointer (some ⟨Bm, 0, none⟩), .pointer (some ⟨Bk, 0, none⟩)] W fun e W' => (∃ v, e = .returned v) ∧
      ((∃ ys, vals m ys = wornL m most ∧ J ys W') ∨ (∃ pre, vals m pre <+: wornL m most ∧ Jx pre W')) := by
  refine callsIn_of_wp Try.func107 rfl trivial ?_ rfl
  simp only [Try.ntmps107, List.size_toArray, List.length_cons, List.length_nil, Nat.reduceAdd, Nat.reduceSub, Array.replicate_succ, Array.replicate_zero, List.push_toArray, List.append_toArray, List.nil_append, List.cons_append]
  gi_wp2
  gi_loopw [4] (fun s wr => ∃ (pre : List (SubOf m)) (x : SubOf m), s = .int .i64 (x.1 : Int) ∧ Hid (wornL m most = vals m pre ++ (subsFrom m (x.1 + 1) x.1).filter (fun s => decide (pc (dif m s) ≤ most))) ∧ Hid (J pre wr) ∧ Hid (Kp2 n₀ [Bm, Bk] W wr))
    (fun s wr => (intOf s).toNat)
  case atStart => exact ⟨[], ⟨m, by simp [sub]⟩, rfl, (by rw [show vals m [] = [] from rfl, List.nil_append, wornL, subs, subsFrom_enough m m 1024 hm] : _ = _), h0, Kp2.refl _ _ _⟩
  case round =>
    obtain ⟨pre, x, rfl, hw, hJw, hB⟩ := hrel
    obtain ⟨s, hs⟩ := x
    have hsm := sub_le s m hs
    have g1 := hB.out.cell (Or.inr (by simp)) hBm
    have g2 := hB.out.cell (Or.inr (by simp)) hBk
    have hA := andNot_nat m s hm (by omega)
    have hd := dif_lt m s hm
    have hmx : Try.prog.follows .mixedOrders = true := by kernel_rfl
    have hlen := wornL_len m most
    have hz := hw.out
    by_cases hs0 : s = 0
    · have hz0 : subsFrom m (s + 1) s = [s] := by rw [hs0]; rfl
      rw [hz0] at hz
      have hsi : ((s : Int) == 0) = true := by rw [hs0]; rfl
      clear hz0 hs0
      by_cases hle : pc (dif m s) ≤ most
      · have hdc : decide (pc (dif m s) ≤ most) = true := by simpa using hle
        simp only [List.filter_cons, hdc, if_true, List.filter_nil] at hz
        have hpl : pre.length < 1024 := by rw [hz, List.length_append, vals_length] at hlen; simp only [List.length_cons, List.length_nil] at hlen; omega
        have hJd : J pre wr.drew := hJ pre wr wr.drew none hJw.out ⟨rfl, rfl, rfl, Nat.le_refl _, fun _ _ _ => rfl⟩ (fun r e => by cases e)
        obtain ⟨fn, tmps, assign, body, hy, hR⟩ := hY pre ⟨s, hs⟩ wr.drew hJd hpl
        have HR : RoundIn Fence.wide (n - 1) Try.prog l fn tmps assign body wr.drew (fun e W' => ∃ bb : Bool, e = .returned (.bool bb) ∧ Hid (match bb with | true => J (pre ++ [⟨s, hs⟩]) W' ∧ Kp2 n₀ [Bm, Bk] wr.drew W' | false => Jx (pre ++ [⟨s, hs⟩]) W')) := hR.mono (by
          rintro e W' (⟨rfl, h1, h2⟩ | ⟨rfl, h1⟩)
          · exact ⟨true, rfl, h1, h2⟩
          · exact ⟨false, rfl, h1⟩)
        have HRR := Lib.hid HR; have HZ := Lib.hid hz
        clear HR hR hY hJd hz hw hdc hlen
        dsimp only [encS] at hy
        gi_wp2
        gi_region_with_o (first | (refine ⟨trivial, ?_⟩; gi_at_call 89; refine (callsIn_wide.2 (count_any _ hd _)).mono ?_; rintro e w' ⟨rfl, rfl⟩) | (refine (HRR.out).mono ?_; rintro e W5 ⟨bb, rfl, hbb⟩))
        all_goals
          cases bb
          · gi_wp2
            refine bodyPost_ret (results_none rfl _ _ _) rfl ?_
            exact ⟨⟨_, rfl⟩, .inr ⟨pre ++ [⟨s, hs⟩], ⟨[], by rw [HZ.out, List.append_nil, vals_snoc]⟩, hbb.out⟩⟩
          · gi_wp2
            refine bodyPost_ret (results_none rfl _ _ _) rfl ?_
            exact ⟨⟨_, rfl⟩, .inl ⟨pre ++ [⟨s, hs⟩], by rw [HZ.out, vals_snoc], hbb.out.1⟩⟩
      · have hdc : decide (pc (dif m s) ≤ most) = false := by simpa using hle
        simp only [List.filter_cons, hdc, List.filter_nil] at hz
        have hz' : wornL m most = vals m pre := by simpa using hz
        have HZ := Lib.hid hz'; clear hz hz' hw hY hdc hlen
        have hle2 : decide (pc (dif m s) ≤ most) = false := by simpa using hle
        gi_wp2
        refine wpIn_wide.2 ?_
        go_quiet ((go_at_call 89; exact Calls.quiet_of_same ((count_any _ hd _).mono fun e w' h => ⟨h.1, h.2.symm⟩)))
        gi_wp2
        refine bodyPost_ret (results_none rfl _ _ _) rfl ?_
        exact ⟨⟨_, rfl⟩, .inl ⟨pre, HZ.out.symm, hJ pre wr _ none hJw.out ⟨rfl, rfl, rfl, Nat.le_refl _, fun _ _ _ => rfl⟩ (fun r e => by cases e)⟩⟩
    · have hst := subs_step m s hs0
      rw [hst] at hz
      have ht : sub ((s - 1) &&& m) m = true := by simp [sub, Nat.and_assoc]
      have hlt : (s - 1) &&& m < s := by have : (s - 1) &&& m ≤ s - 1 := Nat.and_le_left; omega
      have hA2 : bits .and .i64 ((s : Int) - 1) (m : Int) = (((s - 1) &&& m : Nat) : Int) := by
        rw [show ((s : Int) - 1) = ((s - 1 : Nat) : Int) by omega]; exact and_nat _ _ (by omega) (by omega)
      have hsi : ((s : Int) == 0) = false := by simp; omega
      have hs1 : 1 ≤ s := by omega
      have HT := Lib.hid ht
      by_cases hle : pc (dif m s) ≤ most
      · have hdc : decide (pc (dif m s) ≤ most) = true := by simpa using hle
        simp only [List.filter_cons, hdc, if_true] at hz
        have hpl : pre.length < 1024 := by rw [hz, List.length_append, vals_length] at hlen; simp only [List.length_cons] at hlen; omega
        have hJd : J pre wr.drew := hJ pre wr wr.drew none hJw.out ⟨rfl, rfl, rfl, Nat.le_refl _, fun _ _ _ => rfl⟩ (fun r e => by cases e)
        obtain ⟨fn, tmps, assign, body, hy, hR⟩ := hY pre ⟨s, hs⟩ wr.drew hJd hpl
        have HR : RoundIn Fence.wide (n - 1) Try.prog l fn tmps assign body wr.drew (fun e W' => ∃ bb : Bool, e = .returned (.bool bb) ∧ Hid (match bb with | true => J (pre ++ [⟨s, hs⟩]) W' ∧ Kp2 n₀ [Bm, Bk] wr.drew W' | false => Jx (pre ++ [⟨s, hs⟩]) W')) := hR.mono (by
          rintro e W' (⟨rfl, h1, h2⟩ | ⟨rfl, h1⟩)
          · exact ⟨true, rfl, h1, h2⟩
          · exact ⟨false, rfl, h1⟩)
        have HRR := Lib.hid HR; have HZ := Lib.hid hz
        clear HR hR hY hJd hz hw hdc hlen hst ht hs0
        dsimp only [encS] at hy
        gi_wp2
        gi_region_with_o (first | (refine ⟨trivial, ?_⟩; gi_at_call 89; refine (callsIn_wide.2 (count_any _ hd _)).mono ?_; rintro e w' ⟨rfl, rfl⟩) | (refine (HRR.out).mono ?_; rintro e W5 ⟨bb, rfl, hbb⟩))
        all_goals
          cases bb
          · gi_wp2
            refine bodyPost_ret (results_none rfl _ _ _) rfl ?_
            exact ⟨⟨_, rfl⟩, .inr ⟨pre ++ [⟨s, hs⟩], ⟨_, by rw [HZ.out, vals_snoc, List.append_assoc]; rfl⟩, hbb.out⟩⟩
          · have HB5 := Lib.hid (hB.out.trans (Kp2.ofDrew hbb.out.2))
            have g5 := HB5.out.cell (Or.inr (by simp)) hBm
            clear g1 g2
            gi_wp2
            go_roundw
            case rel => exact ⟨pre ++ [(⟨s, hs⟩ : SubOf m)], ⟨(s - 1) &&& m, HT.out⟩, rfl, (by rw [HZ.out, vals_snoc, List.append_assoc]; rfl : _ = _), hbb.out.1, HB5.out⟩
            case measure => simp only [intOf]; omega
      · have hdc : decide (pc (dif m s) ≤ most) = false := by simpa using hle
        simp only [List.filter_cons, hdc] at hz
        have HZ := Lib.hid hz; clear hz hw hY hlen hst ht hs0
        gi_wp2
        refine wpIn_wide.2 ?_
        go_quiet ((go_at_call 89; exact Calls.quiet_of_same ((count_any _ hd _).mono fun e w' h => ⟨h.1, h.2.symm⟩)))
        gi_wp2
        go_roundw
        case rel => exact ⟨pre, ⟨(s - 1) &&& m, HT.out⟩, rfl, (by rw [HZ.out]; rfl : _ = _), hJ pre wr _ none hJw.out ⟨rfl, rfl, rfl, Nat.le_refl _, fun _ _ _ => rfl⟩ (fun r e => by cases e), hB.out.drewN _⟩
        case measure => simp only [intOf]; omega
/-- wornMarks' closure, as the loops' law asks it. -/
theorem worn_stops (n Bm Bk n₀ m most : Nat) (hm : m < 1024) (hn : 1 ≤ n) (w : World) (hBm : w.cell? ⟨Bm, 0, none⟩ = some (.int .i64 (m : Int))) (hBk : w.cell? ⟨Bk, 0, none⟩ = some (.int .i64 (most : Int))):
    SeqStopsK Fence.wide n Try.prog 107 #[.pointer (some ⟨Bm, 0, none⟩), .pointer (some ⟨Bk, 0, none⟩)] (encS m) (Kp2 n₀ [Bm, Bk]) (fun ys => vals m ys = wornL m most) (fun pre => vals m pre <+: wornL m most) 1024 w := fun l J Jx W hW hJ hJx hY h0 =>
  worn107 n l Bm Bk n₀ m most hm hn J Jx W hJ hJx hY (cell_ext hW hBm) (cell_ext hW hBk) h0
end Go.Proofs.Ytlgdnbpboonhdaa
