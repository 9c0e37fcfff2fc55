/- The reference's Both and AreApart. The reference's AreApart. -/
import Derived.Test.YtlgdnbpboonhdaaQ2
import Derived.Test.YtlgdnbpboonhdaaM7
import Derived.Test.YtlgdnbpboonhdaaA2
namespace Go.Proofs.Ytlgdnbpboonhdaa
open Go.RowKit
set_option linter.unusedVariables false
def BInv (L : Int) (a b k : Nat) (v : Int) : Prop :=
  (cl L a b = false → v = -1) ∧ (cl L a b = true → (a &&& b < k ∧ v = ((a &&& b : Nat) : Int)) ∨ (k ≤ a &&& b ∧ (v = -1 ∨ ∃ j : Nat, v = (j : Int) ∧ j < 1024 ∧ pc j < pc (a &&& b))))
theorem and_lt (a b : Nat) (hb : b < 1024) : a &&& b < 1024 := Nat.and_lt_two_pow (n := 10) a hb
theorem BInv.start (L : Int) (a b : Nat) : BInv L a b 0 (-1) := ⟨fun _ => rfl, fun _ => .inr ⟨Nat.zero_le _, .inl rfl⟩⟩
theorem BInv.shape {L : Int} {a b k : Nat} {v : Int} (hb : b < 1024) (h : BInv L a b k v) : v = -1 ∨ ∃ j : Nat, v = (j : Int) ∧ j < 1024 := by
  cases hc : cl L a b
  · exact .inl (h.1 hc)
  · rcases h.2 hc with ⟨-, h1⟩ | ⟨-, h1 | ⟨j, h1, h2, -⟩⟩
    · exact .inr ⟨_, h1, and_lt a b hb⟩
    · exact .inl h1
    · exact .inr ⟨j, h1, h2⟩
theorem BInv.no {L : Int} {a b k : Nat} {v : Int} (h : BInv L a b k v) (hp : cb L k a = false ∨ cb L k b = false) : BInv L a b (k + 1) v := by
  refine ⟨h.1, fun hc => ?_⟩
  rcases h.2 hc with ⟨h1, h2⟩ | ⟨h1, h2⟩
  · exact .inl ⟨by omega, h2⟩
  · refine .inr ⟨?_, h2⟩
    have : k ≠ a &&& b := by
      rintro rfl
      unfold cl at hc
      rw [Bool.and_eq_true] at hc
      rcases hp with hp | hp
      · rw [hc.1] at hp; cases hp
      · rw [hc.2] at hp; cases hp
    omega
theorem BInv.yes {L : Int} {a b k : Nat} (ha : a < 1024) (hb : b < 1024) (h1 : cb L k a = true) (h2 : cb L k b = true) : BInv L a b (k + 1) (k : Int) := by
  obtain ⟨h3, h4, h5⟩ := cl_of L k a b ha hb h1 h2
  refine ⟨fun h => (by rw [h3] at h; cases h), fun _ => ?_⟩
  by_cases hk : k = a &&& b
  · exact .inl ⟨by omega, by rw [← hk]⟩
  · have := and_lt a b hb
    exact .inr ⟨by omega, .inr ⟨k, rfl, by omega, h5 hk⟩⟩
theorem BInv.stay {L : Int} {a b k j : Nat} (ha : a < 1024) (hb : b < 1024) (h1 : cb L k a = true) (h2 : cb L k b = true) (h : BInv L a b k (j : Int)) (hj : ¬ pc j < pc k) : BInv L a b (k + 1) (j : Int) := by
  obtain ⟨h3, h4, h5⟩ := cl_of L k a b ha hb h1 h2
  refine ⟨fun h => (by rw [h3] at h; cases h), fun hc => ?_⟩
  rcases h.2 hc with ⟨h6, h7⟩ | ⟨h6, h7⟩
  · omega
  · refine .inr ⟨?_, h7⟩
    have : k ≠ a &&& b := by
      rintro rfl
      rcases h7 with h7 | ⟨j', h7, -, h8⟩
      · omega
      · have : j = j' := by omega
        subst this; exact hj h8
    omega
theorem BInv.done {L : Int} {a b : Nat} {v : Int} (h : BInv L a b (a + 1) v) : v = bothV L a b := by
  unfold bothV
  split
  · next hc =>
    rcases h.2 hc with ⟨-, h1⟩ | ⟨h1, -⟩
    · exact h1
    · have : a &&& b ≤ a := Nat.and_le_left
      omega
  · next hc => exact h.1 (by simpa using hc)
set_option maxRecDepth 100000 in
theorem both64 (a b : Nat) (L : Int) (ha : a < 1024) (hb : b < 1024) (w : World) : Calls Try.prog 64 #[.int .i64 (a : Int), .int .i64 (b : Int), .int .i64 L] w fun e w' => e = .returned (.int .i64 (bothV L a b)) ∧ w = w' := by
  go_enter Try.func64, Try.ntmps64
  go_wp2
  go_loop [7, 8] (fun s i => ∃ (k : Nat) (v : Int), k ≤ a + 1 ∧ i = .int .i64 k ∧ s = .int .i64 v ∧ BInv L a b k v) (fun s i => a + 1 - (RowKit.intOf i).toNat)
  case atStart => exact ⟨0, -1, Nat.zero_le _, rfl, rfl, BInv.start L a b⟩
  case round =>
    obtain ⟨k, v, hk, rfl, rfl, hI⟩ := hrel
    by_cases hlt : k ≤ a
    · have HI := Lib.hid hI
      have hs := hI.shape hb
      clear hI
      have c1 := fun W => canBe42_any k a L (by omega) ha W
      have c2 := fun W => canBe42_any k b L (by omega) hb W
      cases p1 : cb L k a
      · rw [p1] at c1
        have HN := Lib.hid (HI.out.no (.inl p1))
        have C1 := Lib.hid c1; clear c1 c2 hs p1
        go_wp2_with fail
        refine (C1.out _).mono ?_
        rintro e w' ⟨rfl, rfl⟩
        go_wp2
        go_round
        case rel => exact ⟨k + 1, v, by omega, by go_num, rfl, HN.out⟩
        case measure => simp [RowKit.intOf]; omega
      · cases p2 : cb L k b
        · rw [p1] at c1; rw [p2] at c2
          have HN := Lib.hid (HI.out.no (.inr p2))
          have C1 := Lib.hid c1; have C2 := Lib.hid c2; clear c1 c2 hs p1 p2
          go_wp2_with fail
          refine (C1.out _).mono ?_
          rintro e w' ⟨rfl, rfl⟩
          go_wp2_with fail
          refine (C2.out _).mono ?_
          rintro e w' ⟨rfl, rfl⟩
          go_wp2
          go_round
          case rel => exact ⟨k + 1, v, by omega, by go_num, rfl, HN.out⟩
          case measure => simp [RowKit.intOf]; omega
        · rw [p1] at c1; rw [p2] at c2
          have HY := Lib.hid (BInv.yes (k := k) ha hb p1 p2)
          rcases hs with rfl | ⟨j, rfl, hj⟩
          · have HN := HY
            have C1 := Lib.hid c1; have C2 := Lib.hid c2; clear c1 c2 p1 p2
            go_wp2_with fail
            refine (C1.out _).mono ?_
            rintro e w' ⟨rfl, rfl⟩
            go_wp2_with fail
            refine (C2.out _).mono ?_
            rintro e w' ⟨rfl, rfl⟩
            go_wp2
            go_round
            case rel => exact ⟨k + 1, (k : Int), by omega, by go_num, rfl, HN.out⟩
            case measure => simp [RowKit.intOf]; omega
          · have s1 := fun W => size_any k (by omega) W
            have s2 := fun W => size_any j hj W
            have S1 := Lib.hid s1; have S2 := Lib.hid s2
            by_cases hg : pc j < pc k
            · have HN := HY
              have C1 := Lib.hid c1; have C2 := Lib.hid c2; clear c1 c2 p1 p2 s1 s2
              go_wp2_with fail
              refine (C1.out _).mono ?_
              rintro e w' ⟨rfl, rfl⟩
              go_wp2_with fail
              refine (C2.out _).mono ?_
              rintro e w' ⟨rfl, rfl⟩
              go_wp2_with fail
              refine (S1.out _).mono ?_
              rintro e w' ⟨rfl, rfl⟩
              go_wp2_with fail
              refine (S2.out _).mono ?_
              rintro e w' ⟨rfl, rfl⟩
              go_wp2
              go_round
              case rel => exact ⟨k + 1, (k : Int), by omega, by go_num, rfl, HN.out⟩
              case measure => simp [RowKit.intOf]; omega
            · have HN := Lib.hid (HI.out.stay ha hb p1 p2 hg)
              have C1 := Lib.hid c1; have C2 := Lib.hid c2; clear c1 c2 p1 p2 s1 s2
              go_wp2_with fail
              refine (C1.out _).mono ?_
              rintro e w' ⟨rfl, rfl⟩
              go_wp2_with fail
              refine (C2.out _).mono ?_
              rintro e w' ⟨rfl, rfl⟩
              go_wp2_with fail
              refine (S1.out _).mono ?_
              rintro e w' ⟨rfl, rfl⟩
              go_wp2_with fail
              refine (S2.out _).mono ?_
              rintro e w' ⟨rfl, rfl⟩
              go_wp2
              go_round
              case rel => exact ⟨k + 1, (j : Int), by omega, by go_num, rfl, HN.out⟩
              case measure => simp [RowKit.intOf]; omega
    · have : k = a + 1 := by omega
      subst this
      go_wp2
      go_ret
      exact ⟨ret_int hI.done, rfl⟩
end Go.Proofs.Ytlgdnbpboonhdaa
namespace Go.Proofs.Ytlgdnbpboonhdaa
open Go.RowKit
set_option linter.unusedVariables false
def clP (L : Int) (ms : List Nat) (p : Nat × Nat) : Bool := cl L (mAt ms p.1) (mAt ms p.2)
def apL (L : Int) (ms : List Nat) : Option (Nat × Nat) := (pairsL ms.length).find? (clP L ms)
def apV : Option (Nat × Nat) → Int × Int
  | none => (-1, -1)
  | some p => (p.1, p.2)
theorem pairs_prefix (n i k : Nat) (hi : i < n) (hk : k ≤ n) : rowsTo n i ++ rowTo i k <+: pairsL n := by
  have h1 := rowsTo_pre n (i + 1) n (by omega)
  rw [rowsTo_succ] at h1
  exact ((List.prefix_append_right_inj _).2 (rowTo_pre i k n hk)).trans h1
theorem find_prefix {α : Type} {f : α → Bool} {l m : List α} {x : α} (h : l <+: m) (hf : l.find? f = some x) : m.find? f = some x := by
  obtain ⟨r, rfl⟩ := h
  rw [List.find?_append, hf]; rfl
theorem mAt_of {ms : List Nat} {i m : Nat} (h : ms[i]? = some m) : mAt ms i = m := by unfold mAt; rw [h]; rfl
set_option maxRecDepth 100000 in
theorem areApart68 (ms : List Nat) (L : Int) (v : Value) (w : World) (hr : Reads w v (ints ms)) (hm : ∀ m ∈ ms, m < 1024) :
    Calls Try.prog 68 #[v, .int .i64 L] w fun e w' => e = .returned (.tuple #[.int .i64 (apV (apL L ms)).1, .int .i64 (apV (apL L ms)).2]) ∧ Ext w w' := by
  obtain ⟨hl, a, cap, rfl⟩ := hr.shape
  rw [ints_length] at hr hl ⊢
  have HR := Lib.hid hr; have HM := Lib.hid hm; clear hr hm
  obtain ⟨n, hn⟩ : ∃ n, n = ms.length := ⟨_, rfl⟩
  rw [← hn] at hl HR ⊢
  have HN := Lib.hid hn; clear hn
  go_enter Try.func68, Try.ntmps68
  go_wp2
  go_loopw [6] (fun i wr => ∃ j : Nat, j ≤ n ∧ i = .int .i64 (j : Int) ∧ Hid (Ext w wr) ∧ Hid ((rowsTo n j).find? (clP L ms) = none)) (fun i wr => n - (RowKit.intOf i).toNat)
  case atStart => exact ⟨0, Nat.zero_le _, rfl, Ext.refl _, (rfl : _ = _)⟩
  case round =>
    obtain ⟨j, hj, rfl, hE, hF⟩ := hrel
    by_cases hlt : j < n
    · go_wp2
      go_loopw [7] (fun i wr2 => ∃ k : Nat, j + 1 ≤ k ∧ k ≤ n ∧ i = .int .i64 (k : Int) ∧ Hid (Ext w wr2) ∧ Hid ((rowsTo n j ++ rowTo j k).find? (clP L ms) = none)) (fun i wr2 => n - (RowKit.intOf i).toNat)
      case atStart => exact ⟨j + 1, Nat.le_refl _, hlt, by go_num, hE.out, (by rw [rowTo_first, List.append_nil]; exact hF.out : _ = _)⟩
      case round =>
        obtain ⟨k, hk1, hk2, rfl, hE2, hF2⟩ := hrel
        by_cases hkn : k < n
        · obtain ⟨b, off, y1, rfl, hy1, hc1⟩ := (HR.out.ext hE2.out).at (k := j) (by rw [ints_length, ← HN.out]; exact hlt)
          obtain ⟨m1, hm1, rfl⟩ := ints_get hy1
          obtain ⟨b', off', y2, hbo, hy2, hc2⟩ := (HR.out.ext hE2.out).at (k := k) (by rw [ints_length, ← HN.out]; exact hkn)
          cases hbo
          obtain ⟨m2, hm2, rfl⟩ := ints_get hy2
          have h1 := HM.out m1 (List.mem_of_getElem? hm1)
          have h2 := HM.out m2 (List.mem_of_getElem? hm2)
          have hcp : clP L ms (j, k) = cl L m1 m2 := by unfold clP; rw [mAt_of hm1, mAt_of hm2]
          have hf1 : (rowsTo n j ++ rowTo j (k + 1)).find? (clP L ms) = if cl L m1 m2 = true then some (j, k) else none := by
            rw [rowTo_succ _ _ hk1, ← List.append_assoc, List.find?_append, hF2.out, List.find?_cons, hcp]
            cases cl L m1 m2 <;> rfl
          have HF1 := Lib.hid hf1
          clear hy1 hy2 hm1 hm2 hcp hf1
          have hka : (0 : Int) ≤ (k : Int) := by omega
          have hkb : (k : Int) < (n : Int) := by omega
          have hja : (0 : Int) ≤ (j : Int) := by omega
          have hjb : (j : Int) < (n : Int) := by omega
          have h64 : ∀ W, Calls Try.prog 64 #[.int .i64 (m1 : Int), .int .i64 (m2 : Int), .int .i64 L] W fun e w' => e = .returned (.int .i64 (bothV L m1 m2)) ∧ w' = W := fun W => (both64 m1 m2 L h1 h2 W).mono fun e w' ⟨h1, h2⟩ => ⟨h1, h2.symm⟩
          cases hc : cl L m1 m2
          · have hv : bothV L m1 m2 = -1 := by unfold bothV; rw [hc]; rfl
            rw [hv] at h64
            have HF3 := Lib.hid (show (rowsTo n j ++ rowTo j (k + 1)).find? (clP L ms) = none from by rw [HF1.out, hc]; rfl)
            have H64 := Lib.hid h64; clear h64 hv hc
            go_wp2
            go_quiet ((go_at_call 64; exact Calls.quiet_of_same (H64.out _)))
            go_wp2
            go_roundw
            case rel => exact ⟨k + 1, by omega, by omega, by go_num, (hE2.out.drewN _ : Ext _ _), (HF3.out : _ = _)⟩
            case measure => simp [RowKit.intOf]; omega
          · have hv : bothV L m1 m2 = ((m1 &&& m2 : Nat) : Int) := by unfold bothV; rw [hc]; rfl
            rw [hv] at h64
            generalize m1 &&& m2 = sh at *
            have HF3 := Lib.hid (show apL L ms = some (j, k) from find_prefix (by rw [← HN.out]; exact pairs_prefix n j (k + 1) hlt (by omega)) (by rw [HF1.out, hc]; rfl))
            have H64 := Lib.hid h64; clear h64 hv hc
            go_wp2
            go_quiet ((go_at_call 64; exact Calls.quiet_of_same (H64.out _)))
            go_wp2
            go_ret2
            exact ⟨by rw [HF3.out]; rfl, (hE2.out.drewN _ : Ext _ _)⟩
        · obtain rfl : k = n := by omega
          go_wp2
          go_roundw
          case rel => exact ⟨j + 1, by omega, by go_num, hE2.out, (by rw [rowsTo_succ]; exact hF2.out : _ = _)⟩
          case measure => simp [RowKit.intOf]; omega
    · obtain rfl : j = n := by omega
      have HF3 := Lib.hid (show apL L ms = none from by unfold apL pairsL; rw [← HN.out]; exact hF.out)
      go_wp2
      go_ret2
      exact ⟨by rw [HF3.out]; rfl, hE.out⟩
end Go.Proofs.Ytlgdnbpboonhdaa
