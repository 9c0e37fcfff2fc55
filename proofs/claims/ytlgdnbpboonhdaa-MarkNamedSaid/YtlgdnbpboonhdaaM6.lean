/- Contracts of small functions on slices: equal lists, membership, the greatest, the first that is not 0. -/
import Derived.Test.YtlgdnbpboonhdaaM3
namespace Go.Proofs.Ytlgdnbpboonhdaa
open Go.RowKit
set_option linter.unusedVariables false
theorem ints_ne (a b : Option Addr) (xs ys : List Int) (c d : Nat) (w : World) (hx : Reads w (.slice a xs.length c) xs) (hy : Reads w (.slice b ys.length d) ys) (hne : xs.length ≠ ys.length) :
    Calls Try.prog 23 #[.slice a xs.length c, .slice b ys.length d] w fun e w' => e = .returned (.bool false) ∧ Ext w w' := by
  have h1 := hx.1
  have h2 := hy.1
  have h3 : ((xs.length : Int) != (ys.length : Int)) = true := by simp; omega
  clear hx hy
  go_enter Try.func23, Try.ntmps23
  go_wp2
  go_ret
  exact ⟨rfl, Ext.refl _⟩
theorem ints_eq (a b : Option Addr) (n : Nat) (xs ys : List Int) (c d : Nat) (w : World) (e1 : xs.length = n) (e2 : ys.length = n) (hx : Reads w (.slice a n c) xs) (hy : Reads w (.slice b n d) ys) :
    Calls Try.prog 23 #[.slice a n c, .slice b n d] w fun e w' => e = .returned (.bool (xs == ys)) ∧ Ext w w' := by
  have h1 := hx.1
  have h3 : ((n : Int) != (n : Int)) = false := by simp
  have hn : n ≤ 5000 := by omega
  have HX := Lib.hid hx; have HY := Lib.hid hy; have E1 := Lib.hid e1; have E2 := Lib.hid e2; clear hx hy e1 e2 h1
  go_enter Try.func23, Try.ntmps23
  go_wp2
  go_loopw [5] (fun i wr => ∃ k : Nat, k ≤ n ∧ i = .int .i64 k ∧ Hid (Ext w wr) ∧ Hid (xs.take k = ys.take k)) (fun i wr => n - (intOf i).toNat)
  case atStart => exact ⟨0, Nat.zero_le _, rfl, Ext.refl _, rfl⟩
  case round =>
    obtain ⟨k, hk, rfl, hE, hI⟩ := hrel
    by_cases hlt : k < n
    · obtain ⟨b1, off1, x, rfl, hgx, hcx⟩ := (HX.out.ext hE.out).at (by rw [E1.out]; exact hlt)
      obtain ⟨b2, off2, y, rfl, hgy, hcy⟩ := (HY.out.ext hE.out).at (by rw [E2.out]; exact hlt)
      have HGX := Lib.hid hgx; have HGY := Lib.hid hgy; clear hgx hgy
      have hka : (0 : Int) ≤ (k : Int) := by omega
      have hkb : (k : Int) < (n : Int) := by omega
      by_cases hxy : x = y
      · subst hxy
        go_wp2
        go_quiet (fail)
        go_wp2
        go_roundw
        case rel => exact ⟨k + 1, by omega, by go_num, hE.out.drewN _, (by rw [take_snoc HGX.out, take_snoc HGY.out, hI.out] : _ = _)⟩
        case measure => simp [intOf]; omega
      · have hd : (x != y) = true := by simpa using hxy
        have HN := Lib.hid hxy; clear hxy
        go_wp2
        go_quiet (fail)
        go_wp2
        go_ret
        refine ⟨ret_bool ?_, hE.out.drewN _⟩
        symm
        have hne : xs ≠ ys := by
          intro e
          have h1 := HGX.out
          rw [e, HGY.out] at h1
          exact HN.out (by simpa using h1.symm)
        simpa using hne
    · go_wp2
      go_ret
      obtain rfl : k = n := by omega
      refine ⟨ret_bool ?_, hE.out⟩
      have := hI.out
      rw [List.take_of_length_le (by rw [E1.out]; exact Nat.le_refl _), List.take_of_length_le (by rw [E2.out]; exact Nat.le_refl _)] at this
      simp [this]
theorem ints_any (u v : Value) (xs ys : List Int) (w : World) (hx : Reads w u xs) (hy : Reads w v ys) :
    Calls Try.prog 23 #[u, v] w fun e w' => e = .returned (.bool (xs == ys)) ∧ Ext w w' := by
  obtain ⟨_, a, c, rfl⟩ := hx.shape
  obtain ⟨_, b, d, rfl⟩ := hy.shape
  by_cases h : xs.length = ys.length
  · have hx' := hx
    rw [h] at hx' ⊢
    exact ints_eq a b ys.length xs ys c d w h rfl hx' hy
  · refine (ints_ne a b xs ys c d w hx hy h).mono fun e w' ⟨h1, h2⟩ => ⟨?_, h2⟩
    rw [h1]
    have : xs ≠ ys := fun e => h (by rw [e])
    exact ret_bool (by symm; simpa using this)
theorem index_any (v : Value) (xs : List Int) (n : Int) (w : World) (hx : Reads w v xs) :
    Calls Try.prog 108 #[v, .int .i64 n] w fun e w' => (∃ k : Int, e = .returned (.int .i64 k) ∧ -1 ≤ k ∧ k ≤ 5000 ∧ (0 ≤ k ↔ n ∈ xs)) ∧ w = w' := by
  obtain ⟨hl, a, cap, rfl⟩ := hx.shape
  have hl2 : xs.length ≤ 9223372036854775807 := by omega
  have HR := Lib.hid hx; clear hx
  go_enter Try.func108, Try.ntmps108
  go_wp2
  go_loop [8] (fun i => ∃ k : Nat, k ≤ xs.length ∧ i = .int .i64 k ∧ Hid (n ∉ xs.take k)) (fun i => xs.length - (intOf i).toNat)
  case atStart => exact ⟨0, Nat.zero_le _, rfl, by simp [Hid]⟩
  case round =>
    obtain ⟨k, hk, rfl, hI⟩ := hrel
    by_cases hlt : k < xs.length
    · obtain ⟨b, off, x, rfl, hx, hck⟩ := HR.out.at hlt
      have HX := Lib.hid hx; clear hx
      by_cases hxn : n = x
      · subst hxn
        go_wp2
        go_ret
        exact ⟨⟨k, rfl, by omega, by omega, by simp; exact List.mem_of_getElem? HX.out⟩, rfl⟩
      · have hd : (n == x) = false := by simpa using hxn
        have HN := Lib.hid hxn; clear hxn
        go_wp2
        go_round
        case rel => exact ⟨k + 1, by omega, by go_num, (by rw [take_snoc HX.out]; simp; exact ⟨hI.out, HN.out⟩ : _ ∉ _)⟩
        case measure => simp [intOf]; omega
    · go_wp2
      go_ret
      obtain rfl : k = xs.length := by omega
      have := hI.out
      rw [List.take_of_length_le (Nat.le_refl _)] at this
      exact ⟨⟨-1, rfl, by omega, by omega, by simpa using this⟩, rfl⟩
theorem contains101_any (v : Value) (xs : List Int) (n : Int) (w : World) (hx : Reads w v xs) :
    Calls Try.prog 101 #[v, .int .i64 n] w fun e w' => e = .returned (.bool (decide (n ∈ xs))) ∧ w = w' := by
  go_enter Try.func101, Try.ntmps101
  go_wp2_with fail
  refine (index_any v xs n _ hx).mono ?_
  rintro e w' ⟨⟨k, rfl, h1, h2, h3⟩, rfl⟩
  have H3 := Lib.hid h3; clear h3
  go_wp2
  go_ret
  refine ⟨ret_bool ?_, rfl⟩
  rw [Bool.eq_iff_iff]; simp [H3.out]
end Go.Proofs.Ytlgdnbpboonhdaa
