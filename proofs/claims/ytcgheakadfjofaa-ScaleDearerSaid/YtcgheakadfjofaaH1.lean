/- Plain facts for ScaleDearer: a wider, and a dearer, rule. -/
import Derived.Test.YtcgheakadfjofaaA5
namespace Go.Proofs.Ytcgheakadfjofaa
set_option linter.unusedVariables false
theorem wide_ok {th bd : List Int} {r : Rl} (h : bothE th bd r = 0) {lo hi : Int} (h1 : 1 ≤ lo) (h2 : lo ≤ r.lo) (h3 : r.hi ≤ hi) (h4 : hi ≤ 60) :
    bothE th bd { r with lo := lo, hi := hi } = 0 ∧ ∀ n, bst (sF th bd r) allB n 0 ≤ bst (sF th bd { r with lo := lo, hi := hi }) allB n 0 := by
  obtain ⟨hs, hr⟩ := bothE_ok.1 h
  have a1 := hr.lohi
  refine ⟨bothE_ok.2 ⟨hs, ⟨h1, ?_, h4, hr.st, hr.st2, hr.tr, hr.tr2, hr.off, hr.off2, hr.dv, hr.dv2, hr.tn, hr.tn2⟩⟩, fun n => ?_⟩
  · show lo ≤ hi
    omega
  · exact bst_mono (fun i j _ _ hp _ => ⟨Int.le_of_eq (scl_wide h2 h3 hp), rfl⟩) 0 (Nat.zero_le _)
theorem dear_ok {th bd : List Int} {r : Rl} (h : bothE th bd r = 0) {off dv tn : Int} (h1 : r.off ≤ off) (h2 : r.dv ≤ dv) (h3 : r.tn ≤ tn) (h4 : off ≤ 20) (h5 : dv ≤ 100) (h6 : tn ≤ 60) :
    bothE th bd { r with off := off, dv := dv, tn := tn } = 0 ∧ ∀ n, bst (sF th bd { r with off := off, dv := dv, tn := tn }) allB n 0 ≤ bst (sF th bd r) allB n 0 := by
  obtain ⟨hs, hr⟩ := bothE_ok.1 h
  have a1 := hr.off
  have a2 := hr.dv
  have a3 := hr.tn
  refine ⟨bothE_ok.2 ⟨hs, ⟨hr.lo, hr.lohi, hr.hi, hr.st, hr.st2, hr.tr, hr.tr2, ?_, h4, ?_, h5, ?_, h6⟩⟩, fun n => ?_⟩
  · show 0 ≤ off
    omega
  · show 1 ≤ dv
    omega
  · show 0 ≤ tn
    omega
  · exact bst_mono (fun i j _ _ hp _ => ⟨scl_dear hr h1 h2 h3 hp, rfl⟩) 0 (Nat.zero_le _)
end Go.Proofs.Ytcgheakadfjofaa
