/- wide (37): whether a list of lists has more than 40 elements, or one of them has. -/
import Derived.Test.YtclcippfodjfeaaR6
namespace Go.Proofs.Ytclcippfodjfeaa
open Go.RowKit
set_option linter.unusedVariables false
set_option linter.unusedSimpArgs false
/-- More than 40 lists, or one of more than 40 (of lengths alone). -/
def wideB (ls : List Nat) : Bool := decide (40 < ls.length) || ls.any (fun m => decide (40 < m))
set_option maxHeartbeats 1000000 in
theorem wide37 (a : Option Addr) (n cap : Nat) (ls : List Nat) (hn : n = ls.length) (w : World)
    (h : n ≤ 40 → n = 0 ∨ ∃ b off, a = some ⟨b, off, none⟩ ∧ ∀ i m, ls[i]? = some m → ∃ a' cap', w.cell? ⟨b, off + i, none⟩ = some (.slice a' m cap')) :
    Calls Try.prog 37 #[.slice a n cap] w fun e w' => e = .returned (.bool (wideB ls)) ∧ w = w' := by
  by_cases h40 : 40 < n
  · have hd : wideB ls = true := by unfold wideB; rw [← hn, decide_eq_true h40]; rfl
    rw [hd]
    clear h hd hn
    have hi : (40 : Int) < (n : Int) := by omega
    go_enter Try.func37, Try.ntmps37
    go_wp2
    go_ret
    exact ⟨rfl, rfl⟩
  · have hh := h (by omega)
    obtain ⟨c, hc⟩ : ∃ c, c = ls.any (fun m => decide (40 < m)) := ⟨_, rfl⟩
    have hd : wideB ls = c := by unfold wideB; rw [← hn, decide_eq_false h40, hc]; rfl
    rw [hd]
    have HH := Lib.hid hh; have HC := Lib.hid hc; have HN := Lib.hid hn
    have hi : ¬ (40 : Int) < (n : Int) := by omega
    clear h hh hc hd hn
    go_enter Try.func37, Try.ntmps37
    go_wp2
    go_loop [3] (fun i => ∃ k : Nat, k ≤ n ∧ i = .int .i64 (k : Int) ∧ Hid ((ls.take k).any (fun m => decide (40 < m)) = false)) (fun i => n - (intOf i).toNat)
    case atStart => exact ⟨0, Nat.zero_le _, rfl, (by rfl : _ = false)⟩
    case round =>
      obtain ⟨k, hk, rfl, hall⟩ := hrel
      by_cases hlt : k < n
      · rcases HH.out with h0 | ⟨b, off, rfl, hcell⟩
        · omega
        obtain ⟨m, hm⟩ : ∃ m, ls[k]? = some m := ⟨ls[k]'(by have := HN.out; omega), List.getElem?_eq_getElem _⟩
        obtain ⟨a', cap', hck⟩ := hcell k m hm
        have ht := take_snoc hm
        have HS := Lib.hid (show (ls.take (k + 1)).any (fun m => decide (40 < m)) = decide (40 < m) from by rw [ht, List.any_append, hall.out]; simp)
        have HY := Lib.hid (show 40 < m → c = true from fun h => by rw [HC.out]; exact List.any_eq_true.2 ⟨m, List.mem_of_getElem? hm, by simp [h]⟩)
        have hka : (0 : Int) ≤ (k : Int) := by omega
        have hkb : (k : Int) < (n : Int) := by omega
        clear hm ht hcell
        by_cases hm4 : 40 < m
        · have hmi : (40 : Int) < (m : Int) := by omega
          go_wp2
          go_ret
          exact ⟨by rw [HY.out hm4]; rfl, rfl⟩
        · have hmi : ¬ (40 : Int) < (m : Int) := by omega
          go_wp2
          go_round
          case rel => exact ⟨k + 1, by omega, by go_num, show _ = false by rw [HS.out]; exact decide_eq_false hm4⟩
          case measure => simp [intOf]; omega
      · have hz : c = false := by
          have : k = ls.length := by have := HN.out; omega
          have h2 := hall.out
          rw [this, List.take_of_length_le (Nat.le_refl _)] at h2
          rw [HC.out, h2]
        have HZ := Lib.hid hz; clear hz
        go_wp2
        go_ret
        exact ⟨by rw [HZ.out]; rfl, rfl⟩
end Go.Proofs.Ytclcippfodjfeaa
