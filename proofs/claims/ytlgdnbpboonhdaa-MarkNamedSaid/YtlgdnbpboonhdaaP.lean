/- Plain facts on sets of strokes as numbers, and on lists; no program is looked at here. -/
import Derived.Below
import Derived.Laws.BitsAllLaws
import Derived.Lib.Hide
namespace Go.Proofs.Ytlgdnbpboonhdaa
open Go.RowKit
set_option linter.unusedVariables false

/-- How many strokes a set below 1024 has. -/
def pc (n : Nat) : Nat := n % 2 + n / 2 % 2 + n / 4 % 2 + n / 8 % 2 + n / 16 % 2 + n / 32 % 2 + n / 64 % 2 + n / 128 % 2 + n / 256 % 2 + n / 512 % 2
theorem pc_le (n : Nat) : pc n ≤ 10 := by unfold pc; omega
/-- All strokes of one set are in another one. -/
def sub (a b : Nat) : Bool := (a &&& b) == a
/-- The strokes of a that are not in b. -/
def dif (a b : Nat) : Nat := a ^^^ (a &&& b)

theorem ofInt_i64 (a : Nat) (ha : a < 9223372036854775808) : (BitVec.ofInt 64 (a : Int)).toNat = a := by
  rw [BitVec.ofInt_natCast, BitVec.toNat_ofNat]; exact Nat.mod_eq_of_lt (by omega)
theorem wrapi64 (a : Nat) (ha : a < 9223372036854775808) : IntKind.i64.wrap (a : Int) = a := by
  simp [IntKind.wrap, IntKind.bits, IntKind.signed]; omega
theorem and_nat (a b : Nat) (ha : a < 2147483648) (hb : b < 2147483648) : bits .and .i64 (a : Int) (b : Int) = ((a &&& b : Nat) : Int) := by
  have hx : a &&& b < 2 ^ 31 := Nat.and_lt_two_pow _ (by omega)
  show IntKind.i64.wrap ((BitVec.ofInt 64 (a : Int) &&& BitVec.ofInt 64 (b : Int)).toNat : Int) = _
  rw [BitVec.toNat_and, ofInt_i64 a (by omega), ofInt_i64 b (by omega), wrapi64]
  omega
theorem xor_nat (a b : Nat) (ha : a < 1024) (hb : b < 1024) : bits .xor .i64 (a : Int) (b : Int) = ((a ^^^ b : Nat) : Int) := by
  have hx : a ^^^ b < 2 ^ 10 := Nat.xor_lt_two_pow (by omega) (by omega)
  show IntKind.i64.wrap ((BitVec.ofInt 64 (a : Int) ^^^ BitVec.ofInt 64 (b : Int)).toNat : Int) = _
  rw [BitVec.toNat_xor, ofInt_i64 a (by omega), ofInt_i64 b (by omega), wrapi64]
  omega
theorem dif_lt (a b : Nat) (ha : a < 1024) : dif a b < 1024 := by
  have h1 : a &&& b < 2 ^ 10 := Nat.lt_of_le_of_lt Nat.and_le_left (by omega)
  exact Nat.xor_lt_two_pow (n := 10) (by omega) h1
theorem andNot_nat (a b : Nat) (ha : a < 1024) (hb : b < 1024) : bits .andNot .i64 (a : Int) (b : Int) = ((dif a b : Nat) : Int) := by
  have hx := dif_lt a b ha
  show IntKind.i64.wrap ((BitVec.ofInt 64 (a : Int) &&& ~~~ BitVec.ofInt 64 (b : Int)).toNat : Int) = _
  have e : (BitVec.ofInt 64 (a : Int) &&& ~~~ BitVec.ofInt 64 (b : Int)) = BitVec.ofNat 64 (dif a b) := by
    apply BitVec.eq_of_getLsbD_eq
    intro i hi
    simp only [BitVec.ofInt_natCast, BitVec.getLsbD_and, BitVec.getLsbD_not, BitVec.getLsbD_ofNat, dif, Nat.testBit_xor, Nat.testBit_and, hi]
    cases a.testBit i <;> cases b.testBit i <;> simp
  rw [e, BitVec.toNat_ofNat, Nat.mod_eq_of_lt (by omega), wrapi64]
  omega
theorem sub_dif (a b : Nat) : (dif a b == 0) = sub a b := by
  rw [Bool.eq_iff_iff]
  simp only [sub, dif, beq_iff_eq]
  constructor
  · intro h
    apply Nat.eq_of_testBit_eq
    intro i
    have := congrArg (fun n => n.testBit i) h
    simp only [Nat.testBit_xor, Nat.zero_testBit] at this
    cases h1 : (a &&& b).testBit i <;> cases h2 : a.testBit i <;> simp_all
  · intro h; rw [h]; simp
/-- All strokes. -/
def full (S : Nat) : Nat := 2 ^ S - 1
theorem full_lt (S : Nat) (h : S ≤ 10) : full S < 1024 := by
  have : 2 ^ S ≤ 2 ^ 10 := Nat.pow_le_pow_right (by omega) h
  unfold full; omega
theorem full_wrap (S : Nat) (h1 : 1 ≤ S) (h2 : S ≤ 10) : wrap64 (wrap64 (2 ^ S) - 1) = (full S : Int) := by
  have : S = 1 ∨ S = 2 ∨ S = 3 ∨ S = 4 ∨ S = 5 ∨ S = 6 ∨ S = 7 ∨ S = 8 ∨ S = 9 ∨ S = 10 := by omega
  rcases this with rfl | rfl | rfl | rfl | rfl | rfl | rfl | rfl | rfl | rfl <;> decide
/-- As cmp.Compare says. -/
def cmpI (a b : Int) : Int := if a < b then -1 else if b < a then 1 else 0
theorem ret_int {k : IntKind} {a b : Int} (h : a = b) : Ending.returned (.int k a) = .returned (.int k b) := by rw [h]
theorem ret_bool {a b : Bool} (h : a = b) : Ending.returned (.bool a) = .returned (.bool b) := by rw [h]
theorem add_or (x y : Nat) (hx : x < 1024) (hy : y < 1024) (h : x &&& y = 0) : x + y = x ||| y := by
  have e : BitVec.ofNat 11 x + BitVec.ofNat 11 y = BitVec.ofNat 11 x ||| BitVec.ofNat 11 y := by
    apply BitVec.add_eq_or_of_and_eq_zero
    apply BitVec.eq_of_toNat_eq
    simp only [BitVec.toNat_and, BitVec.toNat_ofNat]
    rw [Nat.mod_eq_of_lt (by omega), Nat.mod_eq_of_lt (by omega), h]
  have := congrArg BitVec.toNat e
  simp only [BitVec.toNat_add, BitVec.toNat_or, BitVec.toNat_ofNat] at this
  rw [Nat.mod_eq_of_lt (by omega : x < 2 ^ 11), Nat.mod_eq_of_lt (by omega : y < 2 ^ 11), Nat.mod_eq_of_lt (by omega)] at this
  exact this
theorem sub_spec (w m : Nat) : sub w m = true ↔ w &&& m = w := by simp [sub]
theorem sub_le (w m : Nat) (h : sub w m = true) : w ≤ m := by
  have := (sub_spec w m).1 h
  have h2 : w &&& m ≤ m := Nat.and_le_right
  omega
theorem dif_of_sub (w m : Nat) (h : sub w m = true) (hm : m < 1024) : dif m w = m - w := by
  have e := (sub_spec w m).1 h
  have hw := sub_le w m h
  have hd := dif_lt m w hm
  have e2 : m &&& w = w := by rw [Nat.and_comm]; exact e
  have e3 : w &&& dif m w = 0 := by
    unfold dif; rw [e2]
    apply Nat.eq_of_testBit_eq; intro i
    have := congrArg (fun n => n.testBit i) e
    simp only [Nat.testBit_and, Nat.testBit_xor, Nat.zero_testBit] at this ⊢
    cases h1 : w.testBit i <;> cases h2 : m.testBit i <;> simp_all
  have e4 : w ||| dif m w = m := by
    unfold dif; rw [e2]
    apply Nat.eq_of_testBit_eq; intro i
    have := congrArg (fun n => n.testBit i) e
    simp only [Nat.testBit_and, Nat.testBit_xor, Nat.testBit_or] at this ⊢
    cases h1 : w.testBit i <;> cases h2 : m.testBit i <;> simp_all
  have := add_or w (dif m w) (by omega) hd e3
  omega
/-- A worn mark can be a mark, of which at most so many strokes can be lost. -/
def cb (L : Int) (w m : Nat) : Bool := sub w m && decide ((pc (m - w) : Int) ≤ L)
theorem cb_sub (L : Int) (w m : Nat) (h : sub w m = false) : cb L w m = false := by simp [cb, h]
theorem cb_yes (L : Int) (w m : Nat) (h : sub w m = true) : cb L w m = decide ((pc (m - w) : Int) ≤ L) := by simp [cb, h]
end Go.Proofs.Ytlgdnbpboonhdaa
