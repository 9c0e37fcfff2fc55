/- Which marks are free: plain facts, and the reference's IsFree and Free. -/
import Derived.Test.YtlgdnbpboonhdaaO7
import Derived.Test.YtlgdnbpboonhdaaT3
namespace Go.Proofs.Ytlgdnbpboonhdaa
open Go.RowKit
set_option linter.unusedVariables false
/-- A mark clashes with none of the first k marks. -/
def freeTo (L : Int) (ms : List Nat) (m k : Nat) : Bool := (List.range k).all fun i => !cl L m (mAt ms i)
theorem freeTo_succ (L : Int) (ms : List Nat) (m k : Nat) : freeTo L ms m (k + 1) = (freeTo L ms m k && !cl L m (mAt ms k)) := by
  simp [freeTo, List.range_succ]
theorem freeTo_false (L : Int) (ms : List Nat) (m k n : Nat) (h : k < n) (hc : cl L m (mAt ms k) = true) : freeTo L ms m n = false := by
  rw [Bool.eq_false_iff]
  intro ha
  unfold freeTo at ha
  rw [List.all_eq_true] at ha
  have := ha k (List.mem_range.2 h)
  rw [hc] at this; cases this
theorem mAt_lt2 {S L : Nat} {ms : List Nat} (hv : Valid S L ms) (i : Nat) : mAt ms i < 1024 := by
  unfold mAt
  cases h : ms[i]? with
  | none => simp
  | some m => exact hv.lt h
theorem untaken_free {S L : Nat} {ms : List Nat} (hv : Valid S L ms) (m : Nat) (hm : m < 1024) : untakenB m L (freeT ms L) = freeTo L ms m ms.length := by
  rw [Bool.eq_iff_iff]
  unfold untakenB freeT noteTo freeTo
  simp only [List.all_eq_true, Bool.not_eq_true', Bool.true_and, List.any_eq_false, List.mem_range]
  constructor
  · intro h i hi
    rw [Bool.eq_false_iff]
    intro hc
    have h1 := hc
    unfold cl at h1
    rw [Bool.and_eq_true] at h1
    exact h (m &&& mAt ms i) ((mem_wornL _ _ _ hm).2 h1.1) i hi h1.2
  · intro h x hx i hi hb
    have h1 := cl_of (L : Int) x m (mAt ms i) hm (mAt_lt2 hv i) ((mem_wornL _ _ _ hm).1 hx) hb
    rw [h i hi] at h1; cases h1.1
theorem freeL_eq {S L : Nat} {ms : List Nat} (hv : Valid S L ms) : freeL S L ms = pickL 1 (full S) fun m => freeTo L ms m ms.length := by
  unfold freeL pickL
  apply List.filter_congr
  intro m hm
  have h1 := full_lt S hv.2.1
  rw [List.mem_range'_1] at hm
  exact untaken_free hv m (by omega)
set_option maxRecDepth 100000 in
set_option maxHeartbeats 2000000 in
theorem isFree78 (S L m : Nat) (ms : List Nat) (v : Value) (w : World) (hv : Valid S L ms) (hr : Reads w v (ints ms)) (h1 : 1 ≤ m) (h2 : m ≤ full S) :
    Calls Try.prog 78 #[.agg #[.int .i64 (S : Int), .int .i64 (L : Int), v], .int .i64 (m : Int)] w fun e w' => e = .returned (.bool (freeTo L ms m ms.length)) ∧ Ext w w' := by
  obtain ⟨hl, a, cap, rfl⟩ := hr.shape
  rw [ints_length] at hr hl ⊢
  have e0 := (Ext.refl w).alloc (.cells #[.int .i64 (S : Int), .int .i64 (L : Int), .slice a ms.length cap] 24)
  have E0 := Lib.hid e0
  have P0 := Lib.hid (OffAt.new w (.int .i64 (S : Int)) (.int .i64 (L : Int)) (.slice a ms.length cap) 24)
  have HR := Lib.hid (hr.ext e0); clear hr e0
  have hS1 := hv.1; have hS2 := hv.2.1
  have hm3 : m < 1024 := by have := full_lt S hS2; omega
  have HV := Lib.hid hv; clear hv
  obtain ⟨n, hn⟩ : ∃ n, n = ms.length := ⟨_, rfl⟩
  rw [← hn] at hl HR E0 P0 ⊢
  have HN := Lib.hid hn; clear hn
  obtain ⟨g1, g2, g3⟩ := P0.out
  have hd : decide ((m : Int) < 1) = false := by simp; omega
  go_enter Try.func78, Try.ntmps78
  go_wp2_with fail
  refine (all43_any S L _ _ hS1 hS2).mono ?_
  rintro e w1 ⟨rfl, hb⟩
  have P1 := Lib.hid (P0.out.ext hb)
  have HB := Lib.hid (E0.out.trans hb)
  replace HR := Lib.hid (HR.out.ext hb); clear hb g1 g2 g3
  have hd2 : decide ((full S : Int) < (m : Int)) = false := by simp; omega
  go_wp2_with fail
  go_loopw [5] (fun i wr => ∃ k : Nat, k ≤ n ∧ i = .int .i64 (k : Int) ∧ Hid (Ext w1 wr) ∧ Hid (freeTo L ms m k = true)) (fun i wr => n - (RowKit.intOf i).toNat)
  case atStart => exact ⟨0, Nat.zero_le _, rfl, Ext.refl _, (rfl : _ = _)⟩
  case round =>
    obtain ⟨k, hk, rfl, hE, hF⟩ := hrel
    obtain ⟨g1, g2, g3⟩ := P1.out.ext hE.out
    by_cases hlt : k < n
    · obtain ⟨b, off, y, rfl, hy, hck⟩ := (HR.out.ext hE.out).at (k := k) (by rw [ints_length, ← HN.out]; exact hlt)
      obtain ⟨q, hq, rfl⟩ := ints_get hy
      have hq2 := HV.out.lt hq
      have hs := freeTo_succ L ms m k
      rw [mAt_of hq, hF.out, Bool.true_and] at hs
      have hfl := freeTo_false L ms m k n hlt
      rw [mAt_of hq] at hfl
      have HS := Lib.hid hs; have HFL := Lib.hid hfl; clear hs hy hq hfl
      have hka : (0 : Int) ≤ (k : Int) := by omega
      have hkb : (k : Int) < (n : Int) := by omega
      have h64 : ∀ W, Calls Try.prog 64 #[.int .i64 (m : Int), .int .i64 (q : Int), .int .i64 (L : Int)] W fun e w' => e = .returned (.int .i64 (bothV L m q)) ∧ w' = W := fun W => (both64 m q L hm3 hq2 W).mono fun e w' ⟨h1, h2⟩ => ⟨h1, h2.symm⟩
      cases hc : cl L m q
      · have hv : bothV L m q = -1 := by unfold bothV; rw [hc]; rfl
        rw [hv] at h64
        have HF3 := Lib.hid (show freeTo L ms m (k + 1) = true from by rw [HS.out, hc]; rfl)
        have H64 := Lib.hid h64; clear h64 hv hc
        go_wp2
        go_quiet ((go_at_call 64; exact Calls.quiet_of_same (H64.out _)))
        go_wp2
        go_roundw
        case rel => exact ⟨k + 1, by omega, by go_num, (hE.out.drewN _ : Ext _ _), (HF3.out : _ = _)⟩
        case measure => simp [RowKit.intOf]; omega
      · have hv : bothV L m q = ((m &&& q : Nat) : Int) := by unfold bothV; rw [hc]; rfl
        rw [hv] at h64
        have HF3 := Lib.hid (HFL.out hc)
        generalize m &&& q = sh at *
        have H64 := Lib.hid h64; clear h64 hv hc
        go_wp2
        go_quiet ((go_at_call 64; exact Calls.quiet_of_same (H64.out _)))
        go_wp2
        go_ret
        exact ⟨by rw [HF3.out]; rfl, HB.out.trans (hE.out.drewN _ : Ext _ _)⟩
    · obtain rfl : k = n := by omega
      go_wp2
      go_ret
      exact ⟨by rw [hF.out]; rfl, HB.out.trans hE.out⟩
end Go.Proofs.Ytlgdnbpboonhdaa
