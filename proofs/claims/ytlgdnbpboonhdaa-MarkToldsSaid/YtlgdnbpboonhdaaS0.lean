/- Plain facts on the sets that are contained in a set, from the greatest down. -/
import Derived.Test.YtlgdnbpboonhdaaP
namespace Go.Proofs.Ytlgdnbpboonhdaa
open Go.RowKit
set_option linter.unusedVariables false
/-- The sets that are contained in m, from s down. -/
def subsFrom (m : Nat) : Nat → Nat → List Nat
  | 0, _ => []
  | f + 1, s => s :: bif Nat.beq s 0 then [] else subsFrom m f (Nat.land (Nat.sub s 1) m)
def subs (m : Nat) : List Nat := subsFrom m 1024 m
def down (m : Nat) : Nat → List Nat
  | 0 => bif Nat.beq (Nat.land 0 m) 0 then [0] else []
  | k + 1 => bif Nat.beq (Nat.land (Nat.succ k) m) (Nat.succ k) then (Nat.succ k) :: down m k else down m k
def eqL : List Nat → List Nat → Bool
  | [], [] => true
  | x :: l, y :: r => bif Nat.beq x y then eqL l r else false
  | _, _ => false
def allTo (p : Nat → Bool) : Nat → Bool
  | 0 => true
  | k + 1 => bif p k then allTo p k else false
set_option maxRecDepth 1000000 in
theorem subs_down_all : allTo (fun m => eqL (subs m) (down m m)) 1024 = true := by decide +kernel
end Go.Proofs.Ytlgdnbpboonhdaa
