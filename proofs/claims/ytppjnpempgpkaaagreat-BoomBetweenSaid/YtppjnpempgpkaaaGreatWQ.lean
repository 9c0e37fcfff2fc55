/- Water of a pond, and its sticks; numbers of 64 bits. -/
import Derived.Test.YtppjnpempgpkaaaGreatTG
import Derived.Test.YtppjnpempgpkaaaGreatRA
import Derived.Test.YtppjnpempgpkaaaGreatJ3
import Derived.Test.YtppjnpempgpkaaaGreatH7
import Derived.Test.YtppjnpempgpkaaaGreatH6
import Derived.Test.YtppjnpempgpkaaaGreatN3
import Derived.Test.YtppjnpempgpkaaaGreatK1
namespace Go.Proofs.YtppjnpempgpkaaaGreat
open Go.RowKit Go.Shelf
set_option linter.unusedVariables false
set_option linter.unusedSimpArgs false
attribute [local go_sem] Oper.semAt_some
theorem wrapu64 (a : Int) (h0 : 0 ≤ a) (h1 : a < 18446744073709551616) : IntKind.u64.wrap a = a := by
  simp [IntKind.wrap, IntKind.bits, IntKind.signed]
  omega
theorem and_u64 (a b : Nat) (ha : a < 18446744073709551616) (hb : b < 18446744073709551616) : bits .and .u64 (a : Int) (b : Int) = ((a &&& b : Nat) : Int) := by
  show IntKind.u64.wrap ((BitVec.ofInt 64 (a : Int) &&& BitVec.ofInt 64 (b : Int)).toNat : Int) = _
  have h1 : (BitVec.ofInt 64 (a : Int)).toNat = a := by rw [BitVec.toNat_ofInt]; omega
  have h2 : (BitVec.ofInt 64 (b : Int)).toNat = b := by rw [BitVec.toNat_ofInt]; omega
  rw [BitVec.toNat_and, h1, h2]
  have h3 : a &&& b ≤ a := Nat.and_le_left
  exact wrapu64 _ (by omega) (by omega)
theorem or_u64 (a b : Nat) (ha : a < 18446744073709551616) (hb : b < 18446744073709551616) : bits .or .u64 (a : Int) (b : Int) = ((a ||| b : Nat) : Int) := by
  show IntKind.u64.wrap ((BitVec.ofInt 64 (a : Int) ||| BitVec.ofInt 64 (b : Int)).toNat : Int) = _
  have h1 : (BitVec.ofInt 64 (a : Int)).toNat = a := by rw [BitVec.toNat_ofInt]; omega
  have h2 : (BitVec.ofInt 64 (b : Int)).toNat = b := by rw [BitVec.toNat_ofInt]; omega
  rw [BitVec.toNat_or, h1, h2]
  have h3 : a ||| b < 2 ^ 64 := Nat.or_lt_two_pow (by simpa using ha) (by simpa using hb)
  have h4 : (2 : Nat) ^ 64 = 18446744073709551616 := by decide
  exact wrapu64 _ (by omega) (by omega)
theorem stk_few {W H : Nat} {wn kn : List Nat} (hv : VP W H wn kn) (u : Nat → Bool) : stk (gp hv) u ≤ 256 := by
  have h : ∀ n : Nat, (allS n).length = 4 * n := fun n => by
    induction n with
    | zero => rfl
    | succ n ih => unfold allS at ih ⊢; rw [List.range_succ, List.flatMap_append, List.length_append, ih]; simp [sidesOf]; omega
  have h1 : stk (gp hv) u ≤ (allS (W * H)).length := List.countP_le_length
  have := hv.n64
  rw [h] at h1
  omega
/-- Water of a pond, and its sticks. -/
theorem water_r (W H nw cw nk ck : Nat) (aw ak : Option Addr) (wn kn : List Nat) (hv : VP W H wn kn) (b : Nat) (hb : b < 18446744073709551616) (w : World) (hw : Reads w (.slice aw nw cw) (natI wn)) (hk : Reads w (.slice ak nk ck) (natI kn)) :
    Calls Tryz.prog 26 #[.agg #[.int .i64 (W : Int), .int .i64 (H : Int), .slice aw nw cw, .slice ak nk ck], .int .u64 (b : Int)] w fun e w' => ∃ a n c, e = .returned (.slice a n c) ∧ Reads w' (.slice a n c) (natI (watN W H wn kn b (W * H))) ∧ Ext w w' := by
  refine (waterB_c W H nw cw nk ck aw ak wn kn hv b hb w hw hk).mono fun e w' ⟨u, h1, h2, h3⟩ => ?_
  have hr := h2.reads (by rw [natI_len]; have := (wat_lst W H wn kn b).len; have := hv.n64; omega)
  obtain ⟨_, a, c, rfl⟩ := hr.shape
  exact ⟨a, _, c, h1, hr, h3⟩
theorem sticks_w (W H nw cw nk ck : Nat) (aw ak : Option Addr) (wn kn : List Nat) (hv : VP W H wn kn) (b : Nat) (v : Value) (w : World) (hw : Reads w (.slice aw nw cw) (natI wn)) (hk : Reads w (.slice ak nk ck) (natI kn)) (hx : Reads w v (natI (watN W H wn kn b (W * H)))) :
    Calls Tryz.prog 27 #[.agg #[.int .i64 (W : Int), .int .i64 (H : Int), .slice aw nw cw, .slice ak nk ck], v] w fun e w' => e = .returned (.tuple #[.int .i64 (stk (gp hv) (memL (watN W H wn kn b (W * H))) : Int), .int .i64 0]) ∧ Ext w w' := by
  have h := sticks_ok W H nw cw nk ck aw ak wn kn hv v w hw hk _ (wat_lst W H wn kn b) hx
  rw [if_pos (wat_enc hv b), if_pos (wat_enc hv b)] at h
  exact h
end Go.Proofs.YtppjnpempgpkaaaGreat
