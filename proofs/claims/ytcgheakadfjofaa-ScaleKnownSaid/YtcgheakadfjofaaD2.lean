/- lets, All: the reference's logs that are let. -/
import Derived.Test.YtcgheakadfjofaaD0
import Derived.Test.YtcgheakadfjofaaD1
import Derived.Test.YtcgheakadfjofaaC6
namespace Go.Proofs.Ytcgheakadfjofaa
open Go.RowKit Go.Shelf
set_option linter.unusedVariables false
set_option linter.unusedSimpArgs false
attribute [local go_sem] Oper.semAt_some
/-- Which logs are let: none over a place, none that begins or ends at a place. -/
def ltV (ov at_ : Int) (i j : Nat) : Bool := !(decide ((i : Int) < ov) && decide (ov < (j : Int))) && (decide ((i : Int) ≠ at_) && decide ((j : Int) ≠ at_))
theorem ltV_all : ltV (-1) (-1) = allB := by
  funext i j
  have h1 : decide ((i : Int) < -1) = false := decide_eq_false (by omega)
  have h2 : decide ((i : Int) ≠ -1) = true := decide_eq_true (by omega)
  have h3 : decide ((j : Int) ≠ -1) = true := decide_eq_true (by omega)
  simp only [ltV, h1, h2, h3, allB]; rfl
theorem ltV_over (a : Nat) : ltV (a : Int) (-1) = overB a := by
  funext i j
  have h2 : decide ((i : Int) ≠ -1) = true := decide_eq_true (by omega)
  have h3 : decide ((j : Int) ≠ -1) = true := decide_eq_true (by omega)
  simp only [ltV, h2, h3, overB]
  simp
theorem ltV_at (a : Nat) : ltV (-1) (a : Int) = atB a := by
  funext i j
  have h1 : decide ((i : Int) < -1) = false := decide_eq_false (by omega)
  simp only [ltV, h1, atB]
  simp [Int.ofNat_inj]
set_option maxHeartbeats 2000000 in
theorem lets79 (ov at_ : Int) (i j : Nat) (w : World) :
    Calls Try.prog 79 #[.agg #[.int .i64 ov, .int .i64 at_], .int .i64 (i : Int), .int .i64 (j : Int)] w fun e w' => e = .returned (.bool (ltV ov at_ i j)) ∧ Ext w w' := by
  have E0 := Lib.hid ((Ext.refl w).alloc (.cells #[.int .i64 ov, .int .i64 at_] 96))
  obtain ⟨res, hres⟩ : ∃ res, res = ltV ov at_ i j := ⟨_, rfl⟩
  rw [← hres]
  have HR := Lib.hid hres
  clear hres
  by_cases h1 : (i : Int) < ov
  all_goals by_cases h2 : ov < (j : Int)
  all_goals by_cases h3 : (i : Int) = at_
  all_goals by_cases h4 : (j : Int) = at_
  all_goals
    first | have d1 : decide ((i : Int) < ov) = true := decide_eq_true h1 | have d1 : decide ((i : Int) < ov) = false := decide_eq_false h1
    first | have d2 : decide (ov < (j : Int)) = true := decide_eq_true h2 | have d2 : decide (ov < (j : Int)) = false := decide_eq_false h2
    first | have d3 : ((i : Int) != at_) = false := by simp [h3] | have d3 : ((i : Int) != at_) = true := by simpa using h3
    first | have d4 : ((j : Int) != at_) = false := by simp [h4] | have d4 : ((j : Int) != at_) = true := by simpa using h4
    have HA := Lib.hid h1; have HB := Lib.hid h2; have HC := Lib.hid h3; have HD := Lib.hid h4
    clear h1 h2 h3 h4
    go_enter Try.func79, Try.ntmps79
    go_wp2
    go_ret
    refine ⟨ret_bool ?_, E0.out⟩
    rw [HR.out]
    unfold ltV
    have a := HA.out; have b := HB.out; have c := HC.out; have d := HD.out
    simp [a, b, c, d]
set_option maxHeartbeats 2000000 in
theorem all64 (w : World) : Calls Try.prog 64 #[] w fun e w' => e = .returned (.agg #[.int .i64 (-1), .int .i64 (-1)]) ∧ Ext w w' := by
  go_enter Try.func64, Try.ntmps64
  go_wp2
  exact bodyPost_ret (v := .agg #[.int .i64 (-1), .int .i64 (-1)]) (by simp [results, Try.results64, go_sem]) rfl ⟨rfl, Ext.alloc (Ext.refl _) _⟩
end Go.Proofs.Ytcgheakadfjofaa
