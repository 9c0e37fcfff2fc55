/- For the laws of stage 2: whether a stem is too great for them; a stem and a rule in boxes. -/
import Derived.Test.YtcgheakadfjofaaF4
import Derived.Test.YtcgheakadfjofaaD4
namespace Go.Proofs.Ytcgheakadfjofaa
open Go.RowKit
set_option linter.unusedVariables false
set_option linter.unusedSimpArgs false
attribute [local go_sem] Oper.semAt_some
theorem great16 (a a' : Option Addr) (n n' cap cap' : Nat) (w : World) (hn : n ≤ 9223372036854775807) (hn' : n' ≤ 9223372036854775807) :
    Calls Try.prog 16 #[.agg #[.slice a n cap, .slice a' n' cap']] w fun e w' => e = .returned (.bool (decide (70 < n) || decide (70 < n'))) ∧ Ext w w' := by
  have E0 := Lib.hid ((Ext.refl w).alloc (.cells #[.slice a n cap, .slice a' n' cap'] 25))
  by_cases h : 70 < n
  · have h1 : decide ((n : Int) > 70) = true := by simp; omega
    go_enter Try.func16, Try.ntmps16
    go_wp2
    go_ret
    refine ⟨ret_bool ?_, E0.out⟩
    simp; omega
  · have h1 : decide ((n : Int) > 70) = false := by simp; omega
    go_enter Try.func16, Try.ntmps16
    go_wp2
    go_ret
    refine ⟨ret_bool ?_, E0.out⟩
    simp [h]
    omega
/-- A stem in block b, and a rule in the next one. -/
def SR (X : World) (b : Nat) (u v : Value) (r : Rl) : Prop := StemAt X b u v ∧ RuleAt X (b + 1) r
theorem SR.ext {w w' : World} {b : Nat} {u v : Value} {r : Rl} (h : SR w b u v r) (hb : Ext w w') : SR w' b u v r := ⟨h.1.ext hb, h.2.ext hb⟩
theorem SR.new (w : World) (u v : Value) (r : Rl) : SR ((w.alloc (.cells #[u, v] 25)).alloc (.cells #[.int .i64 r.lo, .int .i64 r.hi, .int .i64 r.st, .int .i64 r.tr, .int .i64 r.off, .int .i64 r.dv, .int .i64 r.tn] 27)) w.heap.size u v r := by
  refine ⟨(StemAt.new w u v 25).ext (Ext.alloc (Ext.refl _) _), ?_⟩
  have := RuleAt.new (w.alloc (.cells #[u, v] 25)) r 27
  rw [World.size_alloc] at this
  exact this
theorem best26v (vt vb : Value) (th bd : List Int) (r : Rl) (w : World) (ht : Reads w vt th) (hd : Reads w vb bd) :
    Calls Try.prog 26 #[.agg #[vt, vb], r.val] w fun e w' => e = .returned (.tuple #[.int .i64 (bestV th bd r), .int .i64 (bothE th bd r)]) ∧ Ext w w' := best26 vt vb th bd r w ht hd
end Go.Proofs.Ytcgheakadfjofaa
