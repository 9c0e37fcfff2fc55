/- pick once more, with the capacity of what it returns. -/
import Derived.Test.YtlgdnbpboonhdaaM10
namespace Go.Proofs.Ytlgdnbpboonhdaa
open Go.RowKit
set_option linter.unusedVariables false
/-- A slice that is no longer than its capacity. -/
def CapOk (v : Value) : Prop := ∃ a n c, v = .slice a n c ∧ n ≤ c
theorem CapOk.le {a : Option Addr} {n c : Nat} (h : CapOk (.slice a n c)) : n ≤ c := by
  obtain ⟨_, _, _, e, h⟩ := h
  cases e; exact h
theorem Owns.capOk {B : Nat} {w : World} {v : Value} {xs : List Int} (h : Owns B w v xs) : CapOk v := by
  obtain ⟨_, h⟩ := h
  rcases h with ⟨rfl, h0⟩ | ⟨g, cap, cur, rfl, hb, hh, hn, hc, hs, ht⟩
  · exact ⟨_, _, _, rfl, Nat.le_refl _⟩
  · exact ⟨_, _, _, rfl, hn⟩
set_option maxRecDepth 100000 in
theorem pick59c (g : FuncId) (c1 c2 : Array Value) (lo n : Nat) (hi : Int) (p : Nat → Bool) (w : World) (hn : hi = (lo : Int) + n - 1) (hlo : lo ≤ 2000) (hn2 : n ≤ 2000)
    (hent : ∀ args W, (callFunc g args).run Try.prog W = .ok (.enter g args) W)
    (hg : ∀ i W, i < n → Ext w W → Calls Try.prog g (c1.push (.int .i64 ((lo + i : Nat) : Int)) ++ c2) W fun e w' => e = .returned (.bool (p (lo + i))) ∧ Ext W w') :
    Calls Try.prog 59 #[.int .i64 (lo : Int), .int .i64 hi, .func (.func g) c1 c2] w fun e w' => ∃ v, e = .returned v ∧ (Reads w' v (ints (pickL lo n p)) ∧ CapOk v) ∧ Ext w w' := by
  have HG := Lib.hid hg; have HN := Lib.hid hn; clear hg hn
  go_enter Try.func59, Try.ntmps59
  go_wp2
  go_loopw [7, 8] (fun v i wr => ∃ j : Nat, lo ≤ j ∧ j ≤ lo + n ∧ i = .int .i64 (j : Int) ∧ Hid (Ext w wr) ∧ Hid (Owns w.heap.size wr v (ints (pickL lo (j - lo) p)))) (fun v i wr => lo + n - (intOf i).toNat)
  case atStart => exact ⟨lo, Nat.le_refl _, by omega, rfl, Ext.refl _, (by rw [Nat.sub_self]; exact Owns.nil _ _ : Owns _ _ _ _)⟩
  case round =>
    obtain ⟨j, hj, hj2, rfl, hE, hO⟩ := hrel
    by_cases hlt : j < lo + n
    · have h1 : (j : Int) ≤ hi := by have := HN.out; omega
      have hc := HG.out (j - lo) wr (by omega) hE.out
      rw [show lo + (j - lo) = j by omega] at hc
      have HC := Lib.hid hc; clear hc
      go_wp2_with fail
      refine HC.out.mono ?_
      rintro e w' ⟨rfl, hb⟩
      have hO' := ownsI_ext hO.out hb
      have HE' := Lib.hid (hE.out.trans hb); clear hb
      have hpl : (pickL lo (j - lo) p).length ≤ j - lo := pickL_len _ _ _
      have hps := pickL_succ lo (j - lo) p
      rw [show lo + (j - lo) = j by omega, show (j - lo) + 1 = j + 1 - lo by omega] at hps
      have HPS := Lib.hid hps; have HO' := Lib.hid hO'; clear hps hO'
      cases hpj : p j
      · rw [hpj] at HPS
        go_wp2
        go_roundw
        case rel => exact ⟨j + 1, by omega, by omega, by go_num, HE'.out, (by rw [HPS.out]; simpa using HO'.out : Owns _ _ _ _)⟩
        case measure => simp [intOf]; omega
      · rw [hpj] at HPS
        go_wp2_with (at_builtin; refine append1 w' w.heap.size _ _ _ _ _ rfl rfl rfl HO'.out HE'.out.size (by rw [ints_length]; omega) rfl ?_; intro v' w3 hO3 hB3)
        have HO3 := Lib.hid hO3; have HB3 := Lib.hid hB3; clear hO3 hB3
        go_wp2
        go_roundw
        case rel => exact ⟨j + 1, by omega, by omega, by go_num, Below.trans HE'.out HB3.out, (by rw [HPS.out]; simpa [ints] using HO3.out : Owns _ _ _ _)⟩
        case measure => simp [intOf]; omega
    · have h1 : ¬ (j : Int) ≤ hi := by have := HN.out; omega
      go_wp2
      go_ret
      obtain rfl : j = lo + n := by omega
      rw [Nat.add_sub_cancel_left] at hO
      exact ⟨_, rfl, ⟨hO.out.reads (by rw [ints_length]; have := pickL_len lo n p; omega), hO.out.capOk⟩, hE.out⟩
end Go.Proofs.Ytlgdnbpboonhdaa
