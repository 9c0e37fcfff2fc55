/- Plain facts: how many strokes sets have, and the worn mark that can be two marks. -/
import Derived.Test.YtlgdnbpboonhdaaP
namespace Go.Proofs.Ytlgdnbpboonhdaa
set_option linter.unusedVariables false
def tb (n i : Nat) : Nat := (n.testBit i).toNat
theorem pc_bits (n : Nat) : pc n = tb n 0 + tb n 1 + tb n 2 + tb n 3 + tb n 4 + tb n 5 + tb n 6 + tb n 7 + tb n 8 + tb n 9 := by
  unfold pc tb
  simp only [Nat.toNat_testBit, Nat.reducePow, Nat.div_one]
theorem tb_and (a b i : Nat) : tb (a &&& b) i = min (tb a i) (tb b i) := by
  unfold tb; rw [Nat.testBit_and]; cases a.testBit i <;> cases b.testBit i <;> rfl
theorem tb_dif (a b i : Nat) : tb (dif a b) i = tb a i - tb b i := by
  unfold tb dif; rw [Nat.testBit_xor, Nat.testBit_and]; cases a.testBit i <;> cases b.testBit i <;> rfl
theorem tb_le (a i : Nat) : tb a i ≤ 1 := by unfold tb; cases a.testBit i <;> decide
theorem tb_split (a b i : Nat) : tb a i = tb (a &&& b) i + tb (dif a b) i := by
  unfold tb dif; rw [Nat.testBit_xor, Nat.testBit_and]; cases a.testBit i <;> cases b.testBit i <;> rfl
theorem pc_split (a b : Nat) : pc a = pc (a &&& b) + pc (dif a b) := by
  rw [pc_bits a, pc_bits (a &&& b), pc_bits (dif a b), tb_split a b 0, tb_split a b 1, tb_split a b 2, tb_split a b 3, tb_split a b 4, tb_split a b 5, tb_split a b 6, tb_split a b 7, tb_split a b 8, tb_split a b 9]
  ac_rfl
theorem pc_dif (w m : Nat) (h : sub w m = true) : pc (dif m w) + pc w = pc m := by
  have := pc_split m w
  rw [Nat.and_comm, (sub_spec w m).1 h] at this
  omega
theorem tb_zero (n i : Nat) (h : tb n i = 0) : n.testBit i = false := by unfold tb at h; cases e : n.testBit i <;> simp_all
theorem pc_zero (n : Nat) (h : n < 1024) (hp : pc n = 0) : n = 0 := by
  rw [pc_bits] at hp
  simp only [Nat.add_eq_zero_iff] at hp
  obtain ⟨⟨⟨⟨⟨⟨⟨⟨⟨h0, h1⟩, h2⟩, h3⟩, h4⟩, h5⟩, h6⟩, h7⟩, h8⟩, h9⟩ := hp
  apply Nat.eq_of_testBit_eq
  intro i
  rw [Nat.zero_testBit]
  match i with
  | 0 => exact tb_zero _ _ h0
  | 1 => exact tb_zero _ _ h1
  | 2 => exact tb_zero _ _ h2
  | 3 => exact tb_zero _ _ h3
  | 4 => exact tb_zero _ _ h4
  | 5 => exact tb_zero _ _ h5
  | 6 => exact tb_zero _ _ h6
  | 7 => exact tb_zero _ _ h7
  | 8 => exact tb_zero _ _ h8
  | 9 => exact tb_zero _ _ h9
  | k + 10 => exact Nat.testBit_lt_two_pow (Nat.lt_of_lt_of_le h (by rw [Nat.pow_add]; exact Nat.le_mul_of_pos_left _ (Nat.two_pow_pos k)))
theorem pc_sub (w m : Nat) (h : sub w m = true) : pc w ≤ pc m := by have := pc_dif w m h; omega
theorem pc_lt (w m : Nat) (h : sub w m = true) (hm : m < 1024) (hne : w ≠ m) : pc w < pc m := by
  have h1 := pc_dif w m h
  have h2 : pc (dif m w) ≠ 0 := fun h0 => by
    have := pc_zero _ (dif_lt m w hm) h0
    rw [dif_of_sub w m h hm] at this
    have := sub_le w m h
    omega
  omega
theorem cb_iff (L : Int) (w m : Nat) (hm : m < 1024) : cb L w m = true ↔ sub w m = true ∧ (pc m : Int) - pc w ≤ L := by
  cases hs : sub w m
  · simp [cb_sub _ _ _ hs]
  · rw [cb_yes _ _ _ hs, ← dif_of_sub _ _ hs hm]
    have := pc_dif w m hs
    simp; omega
theorem sub_and_left (a b : Nat) : sub (a &&& b) a = true := by
  rw [sub_spec, Nat.and_comm a b, Nat.and_assoc, Nat.and_self]
theorem sub_and_right (a b : Nat) : sub (a &&& b) b = true := by
  rw [sub_spec, Nat.and_assoc, Nat.and_self]
theorem sub_and (w a b : Nat) (ha : sub w a = true) (hb : sub w b = true) : sub w (a &&& b) = true := by
  rw [sub_spec] at *
  rw [← Nat.and_assoc, ha, hb]
theorem sub_trans (a b c : Nat) (h1 : sub a b = true) (h2 : sub b c = true) : sub a c = true := by
  rw [sub_spec] at *
  rw [← h1, Nat.and_assoc, h2]
/-- Two marks clash. -/
def cl (L : Int) (a b : Nat) : Bool := cb L (a &&& b) a && cb L (a &&& b) b
theorem cl_of (L : Int) (w a b : Nat) (ha : a < 1024) (hb : b < 1024) (h1 : cb L w a = true) (h2 : cb L w b = true) : cl L a b = true ∧ w ≤ a &&& b ∧ (w ≠ a &&& b → pc w < pc (a &&& b)) := by
  rw [cb_iff _ _ _ ha] at h1
  rw [cb_iff _ _ _ hb] at h2
  have h3 := sub_and w a b h1.1 h2.1
  have h4 := pc_sub _ _ h3
  refine ⟨?_, sub_le _ _ h3, fun hne => pc_lt _ _ h3 (Nat.and_lt_two_pow (n := 10) a hb) hne⟩
  unfold cl
  rw [Bool.and_eq_true, cb_iff _ _ _ ha, cb_iff _ _ _ hb]
  exact ⟨⟨sub_and_left a b, by omega⟩, sub_and_right a b, by omega⟩
theorem cl_iff (L : Int) (a b : Nat) (ha : a < 1024) (hb : b < 1024) : cl L a b = true ↔ (pc a : Int) - pc (a &&& b) ≤ L ∧ (pc b : Int) - pc (a &&& b) ≤ L := by
  unfold cl
  rw [Bool.and_eq_true, cb_iff _ _ _ ha, cb_iff _ _ _ hb]
  simp [sub_and_left, sub_and_right]
theorem cl_comm (L : Int) (a b : Nat) : cl L a b = cl L b a := by
  unfold cl; rw [Nat.and_comm, Bool.and_comm]
/-- The worn mark with the most strokes that can be both; -1 if there is none. -/
def bothV (L : Int) (a b : Nat) : Int := if cl L a b = true then ((a &&& b : Nat) : Int) else -1
theorem bothV_neg (L : Int) (a b : Nat) : bothV L a b < 0 ↔ cl L a b = false := by
  unfold bothV; split <;> simp_all <;> omega
end Go.Proofs.Ytlgdnbpboonhdaa
