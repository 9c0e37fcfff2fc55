/- The reference's IsTold. The reference's Told; MarkTolds, by its contract. -/
import Derived.Test.YtlgdnbpboonhdaaU1
import Derived.Test.YtlgdnbpboonhdaaT3
import Derived.Test.YtlgdnbpboonhdaaU7
import Derived.Test.YtlgdnbpboonhdaaX2
namespace Go.Proofs.Ytlgdnbpboonhdaa
open Go.RowKit
set_option linter.unusedVariables false
def othN (ms : List Nat) (L i : Nat) : Nat → Nat → Bool := noteTo ms L (fun k => k != i)
def isToldTo (ms : List Nat) (L i m : Nat) (t : Int) (k : Nat) : Bool := (List.range k).all fun x => !(cb t x m && othN ms L i ms.length x)
theorem isToldTo_succ (ms : List Nat) (L i m : Nat) (t : Int) (k : Nat) : isToldTo ms L i m t (k + 1) = (isToldTo ms L i m t k && !(cb t k m && othN ms L i ms.length k)) := by
  simp [isToldTo, List.range_succ]
theorem isToldTo_false (ms : List Nat) (L i m : Nat) (t : Int) (k : Nat) (hk : k ≤ m) (h1 : cb t k m = true) (h2 : othN ms L i ms.length k = true) : isToldTo ms L i m t (m + 1) = false := by
  rw [Bool.eq_false_iff]
  intro ha
  unfold isToldTo at ha
  rw [List.all_eq_true] at ha
  have := ha k (List.mem_range.2 (by omega))
  rw [h1, h2] at this
  cases this
theorem othN_succ (ms : List Nat) (L i k x : Nat) : othN ms L i (k + 1) x = (othN ms L i k x || (k != i && cb L x (mAt ms k))) := noteTo_succ _ _ _ _ _
theorem othN_true (ms : List Nat) (L i k x n : Nat) (hk : k < n) (hne : k ≠ i) (hc : cb L x (mAt ms k) = true) : othN ms L i n x = true := by
  unfold othN noteTo
  rw [List.any_eq_true]
  exact ⟨k, List.mem_range.2 hk, by rw [hc]; simp [hne]⟩
set_option maxRecDepth 100000 in
set_option maxHeartbeats 4000000 in
theorem isTold71 (S L i : Nat) (t : Int) (ms : List Nat) (m : Nat) (v : Value) (w : World) (hv : Valid S L ms) (hr : Reads w v (ints ms)) (hm : ms[i]? = some m) :
    Calls Try.prog 71 #[.agg #[.int .i64 (S : Int), .int .i64 (L : Int), v], .int .i64 (i : Int), .int .i64 t] w fun e w' => e = .returned (.bool (isToldTo ms L i m t (m + 1))) ∧ Ext w w' := by
  obtain ⟨hl, a, cap, rfl⟩ := hr.shape
  rw [ints_length] at hr hl ⊢
  have hi : i < ms.length := (List.getElem?_eq_some_iff.1 hm).1
  have e0 := (Ext.refl w).alloc (.cells #[.int .i64 (S : Int), .int .i64 (L : Int), .slice a ms.length cap] 24)
  have E0 := Lib.hid e0
  have P0 := Lib.hid (OffAt.new w (.int .i64 (S : Int)) (.int .i64 (L : Int)) (.slice a ms.length cap) 24)
  have HR := Lib.hid (hr.ext e0); clear hr e0
  have HV := Lib.hid hv; clear hv
  have hm2 := HV.out.lt hm
  obtain ⟨b, off, rfl, -, hcq⟩ := HR.out.atN hm
  obtain ⟨n, hn⟩ : ∃ n, n = ms.length := ⟨_, rfl⟩
  rw [← hn] at hl HR E0 P0 hi hcq ⊢
  have hia : (0 : Int) ≤ (i : Int) := by omega
  have hib : (i : Int) < (n : Int) := by omega
  have HN := Lib.hid hn; clear hn hm
  obtain ⟨g1, g2, g3⟩ := P0.out
  go_enter Try.func71, Try.ntmps71
  go_wp2_with fail
  generalize (w.alloc (.cells #[.int .i64 (S : Int), .int .i64 (L : Int), .slice (some ⟨b, off, none⟩) n cap] 24)) = W0 at *
  clear hcq g1 g2 g3
  go_loopw [8] (fun x wr => ∃ k : Nat, k ≤ m + 1 ∧ x = .int .i64 (k : Int) ∧ Hid (Ext W0 wr) ∧ Hid (isToldTo ms L i m t k = true)) (fun x wr => m + 1 - (RowKit.intOf x).toNat)
  case atStart => exact ⟨0, Nat.zero_le _, rfl, Ext.refl _, (rfl : _ = _)⟩
  case round =>
    obtain ⟨x, hx, rfl, hE, hF⟩ := hrel
    by_cases hlt : x ≤ m
    · have h42 := fun W => canBe42_any x m t (by omega) hm2 W
      have hs := isToldTo_succ ms L i m t x
      rw [hF.out, Bool.true_and] at hs
      have HS := Lib.hid hs; clear hs
      cases hc : cb t x m
      · rw [hc] at h42
        have HH := Lib.hid h42
        have HF2 := Lib.hid (show isToldTo ms L i m t (x + 1) = true from by rw [HS.out, hc]; rfl)
        clear h42 hc
        go_wp2_with fail
        refine (HH.out _).mono ?_
        rintro e w1 ⟨rfl, rfl⟩
        go_wp2
        go_roundw
        case rel => exact ⟨x + 1, by omega, by go_num, hE.out, (HF2.out : _ = _)⟩
        case measure => simp [RowKit.intOf]; omega
      · rw [hc] at h42
        have HH := Lib.hid h42
        have HFL := Lib.hid (isToldTo_false ms L i m t x hlt hc)
        have HYES := Lib.hid (show othN ms L i ms.length x = false → isToldTo ms L i m t (x + 1) = true from fun h => by rw [HS.out, hc, h]; rfl)
        clear h42 hc
        go_wp2_with fail
        refine (HH.out _).mono ?_
        rintro e w1 ⟨rfl, rfl⟩
        go_wp2_with fail
        go_loopw [9] (fun y wr2 => ∃ j : Nat, j ≤ n ∧ y = .int .i64 (j : Int) ∧ Hid (Ext W0 wr2) ∧ Hid (othN ms L i j x = false)) (fun y wr2 => n - (RowKit.intOf y).toNat)
        case atStart => exact ⟨0, Nat.zero_le _, rfl, hE.out, (rfl : _ = _)⟩
        case round =>
          obtain ⟨j, hj, rfl, hE2, hF2⟩ := hrel
          obtain ⟨g1, g2, g3⟩ := P0.out.ext hE2.out
          by_cases hjt : j < n
          · obtain ⟨q, hq⟩ := get_some (show j < ms.length by rw [← HN.out]; exact hjt)
            obtain ⟨b1, off1, hbo, -, hck⟩ := (HR.out.ext hE2.out).atN hq
            cases hbo
            have hq2 := HV.out.lt hq
            have hs := othN_succ ms L i j x
            rw [mAt_of hq, hF2.out, Bool.false_or] at hs
            have hfl := othN_true ms L i j x n hjt
            rw [mAt_of hq] at hfl
            have HS2 := Lib.hid hs; have HFL2 := Lib.hid hfl; clear hs hq hfl
            have hka : (0 : Int) ≤ (j : Int) := by omega
            have hkb : (j : Int) < (n : Int) := by omega
            have h42 : ∀ W, Calls Try.prog 42 #[.int .i64 (x : Int), .int .i64 (q : Int), .int .i64 (L : Int)] W fun e w' => e = .returned (.bool (cb L x q)) ∧ w' = W := fun W => (canBe42_any x q L (by omega) hq2 W).mono fun e w' ⟨h1, h2⟩ => ⟨h1, h2.symm⟩
            by_cases hji : j = i
            · have HF3 := Lib.hid (show othN ms L i (j + 1) x = false from by rw [HS2.out]; simp [hji])
              have hne : ((j : Int) != (i : Int)) = false := by simp; omega
              clear h42
              go_wp2
              go_quiet (fail)
              go_wp2
              go_roundw
              case rel => exact ⟨j + 1, by omega, by go_num, (hE2.out.drewN _ : Ext _ _), (HF3.out : _ = _)⟩
              case measure => simp [RowKit.intOf]; omega
            · have hne : ((j : Int) != (i : Int)) = true := by simp; omega
              cases hc2 : cb L x q
              · rw [hc2] at h42
                have HF3 := Lib.hid (show othN ms L i (j + 1) x = false from by rw [HS2.out, hc2]; simp)
                have H42 := Lib.hid h42; clear h42 hc2
                go_wp2
                go_quiet ((go_at_call 42; exact Calls.quiet_of_same (H42.out _)))
                go_wp2
                go_roundw
                case rel => exact ⟨j + 1, by omega, by go_num, (hE2.out.drewN _ : Ext _ _), (HF3.out : _ = _)⟩
                case measure => simp [RowKit.intOf]; omega
              · rw [hc2] at h42
                have HF3 := Lib.hid (HFL.out (by rw [← HN.out]; exact HFL2.out hji hc2))
                have H42 := Lib.hid h42; clear h42 hc2
                go_wp2
                go_quiet ((go_at_call 42; exact Calls.quiet_of_same (H42.out _)))
                go_wp2
                go_ret
                exact ⟨by rw [HF3.out]; rfl, E0.out.trans (hE2.out.drewN _ : Ext _ _)⟩
          · obtain rfl : j = n := by omega
            have HF3 := Lib.hid (HYES.out (by rw [← HN.out]; exact hF2.out))
            go_wp2
            go_roundw
            case rel => exact ⟨x + 1, by omega, by go_num, hE2.out, (HF3.out : _ = _)⟩
            case measure => simp [RowKit.intOf]; omega
    · obtain rfl : x = m + 1 := by omega
      go_wp2
      go_ret
      exact ⟨by rw [hF.out]; rfl, E0.out.trans hE.out⟩
end Go.Proofs.Ytlgdnbpboonhdaa
namespace Go.Proofs.Ytlgdnbpboonhdaa
open Go.RowKit Go.Shelf Go.Maps
set_option linter.unusedVariables false
attribute [local go_sem] Oper.semAt_some
theorem foldIf_le (T : Nat → Bool) (f : Nat → Int) : ∀ (ws : List Nat) (a t : Int), t ≤ ws.foldl (fun t x => if T x then min t (f x) else t) a ↔ t ≤ a ∧ ∀ x ∈ ws, T x = true → t ≤ f x
  | [], a, t => by simp
  | x :: l, a, t => by
    rw [List.foldl_cons, foldIf_le T f l]
    simp only [List.mem_cons, forall_eq_or_imp]
    cases hx : T x
    · simp
    · simp only [if_true, forall_const]
      constructor
      · rintro ⟨h1, h2⟩; exact ⟨by omega, by omega, h2⟩
      · rintro ⟨h1, h2, h3⟩; exact ⟨by omega, h3⟩
theorem le_told (ms : List Nat) (L i : Nat) (t : Int) : t ≤ toldV ms L i ↔ t ≤ L ∧ ∀ x ∈ wornL (mAt ms i) L, othN ms L i ms.length x = true → t ≤ (pc (dif (mAt ms i) x) : Int) - 1 := foldIf_le _ _ _ _ _
theorem told_bd (ms : List Nat) (L i : Nat) : -1 ≤ toldV ms L i ∧ toldV ms L i ≤ L :=
  ⟨(le_told ms L i (-1)).2 ⟨by omega, fun x _ _ => by omega⟩, ((le_told ms L i _).1 (Int.le_refl _)).1⟩
theorem isTold_eq (ms : List Nat) (L i m : Nat) (t : Int) (hm : ms[i]? = some m) (hm2 : m < 1024) (ht : t ≤ L) : isToldTo ms L i m t (m + 1) = decide (t ≤ toldV ms L i) := by
  rw [Bool.eq_iff_iff, decide_eq_true_iff, le_told, mAt_of hm]
  unfold isToldTo
  simp only [List.all_eq_true, List.mem_range, Bool.not_eq_true', Bool.and_eq_false_iff]
  constructor
  · intro h
    refine ⟨ht, fun x hx ho => ?_⟩
    rw [mem_wornL _ _ _ hm2, cb_iff _ _ _ hm2] at hx
    have h1 := sub_le _ _ hx.1
    have h2 := pc_dif _ _ hx.1
    rcases h x (by omega) with h3 | h3
    · rw [Bool.eq_false_iff] at h3
      have : ¬ (pc m : Int) - pc x ≤ t := fun h4 => h3 ((cb_iff _ _ _ hm2).2 ⟨hx.1, h4⟩)
      omega
    · rw [ho] at h3; cases h3
  · rintro ⟨-, h⟩ x hx
    by_cases hc : cb t x m = true
    · right
      rw [Bool.eq_false_iff]
      intro ho
      rw [cb_iff _ _ _ hm2] at hc
      have h2 := pc_dif _ _ hc.1
      have := h x ((mem_wornL _ _ _ hm2).2 ((cb_iff _ _ _ hm2).2 ⟨hc.1, by omega⟩)) ho
      omega
    · left; simpa using hc
set_option maxRecDepth 100000 in
theorem told31_err (S L i : Int) (xs : List Int) (v : Value) (w : World) (hr : Reads w v xs) (hc : chk S L xs ≠ 0) :
    Calls Try.prog 31 #[.agg #[.int .i64 S, .int .i64 L, v], .int .i64 i] w fun e w' => e = .returned (.tuple #[.int .i64 0, .int .i64 (chk S L xs)]) ∧ Ext w w' := by
  obtain ⟨hl, a, cap, rfl⟩ := hr.shape
  have E0 := Lib.hid ((Ext.refl w).alloc (.cells #[.int .i64 S, .int .i64 L, .slice a xs.length cap] 24))
  have P0 := Lib.hid (OffAt.new w (.int .i64 S) (.int .i64 L) (.slice a xs.length cap) 24)
  have HR := Lib.hid hr; clear hr
  obtain ⟨c, hc'⟩ : ∃ c, c = chk S L xs := ⟨_, rfl⟩
  rw [← hc'] at hc ⊢
  have HC := Lib.hid hc'; clear hc'
  have hd : (c != 0) = true := by simpa using hc
  clear hc
  go_enter Try.func31, Try.ntmps31
  go_wp2_with fail
  refine (check22 _ _ _ xs _ (HR.out.ext E0.out)).mono ?_
  rintro e w1 ⟨rfl, hb⟩
  obtain ⟨g1, g2, g3⟩ := P0.out.ext hb
  have HB := Lib.hid (E0.out.trans hb); clear hb
  rw [← HC.out]
  go_wp2_with fail
  refine (check22 _ _ _ xs _ (HR.out.ext HB.out)).mono ?_
  rintro e w2 ⟨rfl, hb⟩
  replace HB := Lib.hid (HB.out.trans hb); clear hb
  rw [← HC.out]
  go_wp2
  go_ret2
  exact ⟨rfl, HB.out⟩
set_option maxRecDepth 100000 in
theorem told31_arg (S L : Nat) (i : Int) (ms : List Nat) (v : Value) (w : World) (hv : Valid S L ms) (hr : Reads w v (ints ms)) (hi : ¬ (0 ≤ i ∧ i < ms.length)) :
    Calls Try.prog 31 #[.agg #[.int .i64 (S : Int), .int .i64 (L : Int), v], .int .i64 i] w fun e w' => e = .returned (.tuple #[.int .i64 0, .int .i64 2]) ∧ Ext w w' := by
  obtain ⟨hl, a, cap, rfl⟩ := hr.shape
  rw [ints_length] at hr hl ⊢
  have E0 := Lib.hid ((Ext.refl w).alloc (.cells #[.int .i64 (S : Int), .int .i64 (L : Int), .slice a ms.length cap] 24))
  have P0 := Lib.hid (OffAt.new w (.int .i64 (S : Int)) (.int .i64 (L : Int)) (.slice a ms.length cap) 24)
  have HR := Lib.hid hr; clear hr
  have HC := Lib.hid (chk_ok hv); clear hv
  have h63 := fun W => isOwner63 (S : Int) (L : Int) i a ms.length cap W hl
  rw [decide_eq_false hi] at h63
  have H63 := Lib.hid h63
  clear hi h63
  go_enter Try.func31, Try.ntmps31
  go_wp2_with fail
  refine (check22 _ _ _ (ints ms) _ (HR.out.ext E0.out)).mono ?_
  rintro e w1 ⟨rfl, hb⟩
  obtain ⟨g1, g2, g3⟩ := P0.out.ext hb
  have HB := Lib.hid (E0.out.trans hb); clear hb
  rw [HC.out]
  go_wp2_with fail
  refine (H63.out _).mono ?_
  rintro e w2 ⟨rfl, hb⟩
  replace HB := Lib.hid (HB.out.trans hb); clear hb
  go_wp2
  go_ret2
  exact ⟨rfl, HB.out⟩
set_option maxRecDepth 100000 in
set_option maxHeartbeats 4000000 in
theorem told31_ok (S L i : Nat) (ms : List Nat) (v : Value) (w : World) (hv : Valid S L ms) (hr : Reads w v (ints ms)) (hi : i < ms.length) :
    Calls Try.prog 31 #[.agg #[.int .i64 (S : Int), .int .i64 (L : Int), v], .int .i64 (i : Int)] w fun e w' => e = .returned (.tuple #[.int .i64 (toldV ms L i), .int .i64 0]) ∧ Ext w w' := by
  obtain ⟨hl, a, cap, rfl⟩ := hr.shape
  rw [ints_length] at hr hl ⊢
  have E0 := Lib.hid ((Ext.refl w).alloc (.cells #[.int .i64 (S : Int), .int .i64 (L : Int), .slice a ms.length cap] 24))
  have P0 := Lib.hid (OffAt.new w (.int .i64 (S : Int)) (.int .i64 (L : Int)) (.slice a ms.length cap) 24)
  obtain ⟨m, hm⟩ := get_some hi
  have hm2 := hv.lt hm
  have HR := Lib.hid hr; clear hr
  have HC := Lib.hid (chk_ok hv)
  have hL10 : L ≤ 10 := by have := hv.2.1; have := hv.2.2.1; omega
  have HV := Lib.hid hv; clear hv
  have h63 := fun W => isOwner63 (S : Int) (L : Int) (i : Int) a ms.length cap W hl
  rw [decide_eq_true (show 0 ≤ (i : Int) ∧ (i : Int) < (ms.length : Int) by omega)] at h63
  have H63 := Lib.hid h63
  have h71 : ∀ (t : Int) W, Ext w W → t ≤ L → Calls Try.prog 71 #[.agg #[.int .i64 (S : Int), .int .i64 (L : Int), .slice a ms.length cap], .int .i64 (i : Int), .int .i64 t] W fun e w' => e = .returned (.bool (decide (t ≤ toldV ms L i))) ∧ Ext W w' := fun t W hW ht => by
    have := isTold71 S L i t ms m _ W HV.out (HR.out.ext hW) hm
    rwa [isTold_eq ms L i m t hm hm2 ht] at this
  have HBD := Lib.hid (told_bd ms L i)
  generalize toldV ms L i = tv at *
  have H71 := Lib.hid h71
  clear h63 hm hi h71
  go_enter Try.func31, Try.ntmps31
  go_wp2_with fail
  refine (check22 _ _ _ (ints ms) _ (HR.out.ext E0.out)).mono ?_
  rintro e w1 ⟨rfl, hb⟩
  obtain ⟨g1, g2, g3⟩ := P0.out.ext hb
  have HB := Lib.hid (E0.out.trans hb); clear hb
  rw [HC.out]
  go_wp2_with fail
  refine (H63.out _).mono ?_
  rintro e w2 ⟨rfl, hb⟩
  have P2 := Lib.hid (OffAt.ext ⟨g1, g2, g3⟩ hb)
  replace HB := Lib.hid (HB.out.trans hb); clear hb g1 g2 g3
  go_wp2_with fail
  go_loopw [6] (fun t wr => ∃ j : Nat, j ≤ L + 1 ∧ t = .int .i64 ((j : Int) - 1) ∧ Hid (Ext w2 wr) ∧ Hid ((j : Int) - 1 ≤ tv)) (fun t wr => (L - RowKit.intOf t).toNat)
  case atStart => exact ⟨0, Nat.zero_le _, by go_num, Ext.refl _, (by have := HBD.out.1; omega : _ ≤ _)⟩
  case round =>
    obtain ⟨j, hj, rfl, hE, hF⟩ := hrel
    obtain ⟨g1, g2, g3⟩ := P2.out.ext hE.out
    obtain ⟨z, hz⟩ : ∃ z : Int, z = (j : Int) - 1 := ⟨_, rfl⟩
    rw [← hz] at hF ⊢
    by_cases hlt : z < (L : Int)
    · have h71 := H71.out (z + 1) wr (HB.out.trans hE.out) (by omega)
      cases hd : decide (z + 1 ≤ tv)
      · rw [hd] at h71
        have HH := Lib.hid h71
        have HEQ := Lib.hid (show tv = z by have := of_decide_eq_false hd; have := hF.out; omega)
        have hz1 : -1 ≤ z := by omega
        have hz2 : z ≤ 10 := by omega
        clear h71 hd hz
        go_wp2_with fail
        refine HH.out.mono ?_
        rintro e w3 ⟨rfl, hb⟩
        have HE3 := Lib.hid (hE.out.trans hb); clear hb
        go_wp2
        go_ret2
        exact ⟨by rw [HEQ.out]; rfl, HB.out.trans HE3.out⟩
      · rw [hd] at h71
        have HH := Lib.hid h71
        have HF2 := Lib.hid (of_decide_eq_true hd)
        have hz1 : -1 ≤ z := by omega
        have hz2 : z ≤ 10 := by omega
        have HZ := Lib.hid hz
        clear h71 hd hz
        go_wp2_with fail
        refine HH.out.mono ?_
        rintro e w3 ⟨rfl, hb⟩
        have HE3 := Lib.hid (hE.out.trans hb); clear hb
        go_wp2
        go_roundw
        case rel => exact ⟨j + 1, by have := HZ.out; omega, by have := HZ.out; rw [show ((j + 1 : Nat) : Int) - 1 = z + 1 by omega], HE3.out, (by have := HZ.out; have := HF2.out; omega : _ ≤ _)⟩
        case measure => simp [RowKit.intOf]; omega
    · have HEQ := Lib.hid (show tv = z by have := HBD.out.2; have := hF.out; omega)
      have hz1 : -1 ≤ z := by omega
      clear hz
      go_wp2
      go_ret2
      exact ⟨by rw [HEQ.out]; rfl, HB.out.trans hE.out⟩
def SameT (w : World) (f g : FuncId) (args : Array Value) : Prop :=
  ∃ x c : Int, (∀ W, Ext w W → Calls Try.prog f args W fun e w' => e = .returned (.tuple #[.int .i64 x, .int .i64 c]) ∧ Ext W w') ∧ (∀ W, Ext w W → Calls Try.prog g args W fun e w' => e = .returned (.tuple #[.int .i64 x, .int .i64 c]) ∧ Ext W w')
theorem told_both (S L i : Int) (v : Value) (xs : List Int) (w : World) (hr : Reads w v xs) : SameT w 30 31 #[.agg #[.int .i64 S, .int .i64 L, v], .int .i64 i] := by
  by_cases hc : chk S L xs = 0
  · obtain ⟨S', L', ms, rfl, rfl, rfl, hv⟩ := chk_zero hc
    by_cases hi : 0 ≤ i ∧ i < ms.length
    · obtain ⟨i, rfl⟩ := Int.eq_ofNat_of_zero_le hi.1
      exact ⟨_, 0, fun W hW => told30_ok S' L' i ms v W hv (hr.ext hW) (by omega), fun W hW => told31_ok S' L' i ms v W hv (hr.ext hW) (by omega)⟩
    · refine ⟨0, 2, fun W hW => told30_arg S' L' i ms v W hv (hr.ext hW) ?_, fun W hW => told31_arg S' L' i ms v W hv (hr.ext hW) hi⟩
      rw [Bool.eq_false_iff]
      intro h
      simp [inR] at h
      apply hi
      omega
  · exact ⟨0, _, fun W hW => told30_err S L i xs v W (hr.ext hW) hc, fun W hW => told31_err S L i xs v W (hr.ext hW) hc⟩
theorem keep_both (S L i : Int) (v : Value) (xs : List Int) (w : World) (hr : Reads w v xs) : SameT w 32 33 #[.agg #[.int .i64 S, .int .i64 L, v], .int .i64 i] := by
  by_cases hc : chk S L xs = 0
  · obtain ⟨S', L', ms, rfl, rfl, rfl, hv⟩ := chk_zero hc
    by_cases hi : 0 ≤ i ∧ i < ms.length
    · obtain ⟨i, rfl⟩ := Int.eq_ofNat_of_zero_le hi.1
      exact ⟨_, _, fun W hW => keep32_ok S' L' i ms v W hv (hr.ext hW) (by omega), fun W hW => keep33_ok S' L' i ms v W hv (hr.ext hW) (by omega)⟩
    · refine ⟨0, 2, fun W hW => keep32_arg S' L' i ms v W hv (hr.ext hW) ?_, fun W hW => keep33_arg S' L' i ms v W hv (hr.ext hW) hi⟩
      rw [Bool.eq_false_iff]
      intro h
      simp [inR] at h
      apply hi
      omega
  · exact ⟨0, _, fun W hW => keep32_err S L i xs v W (hr.ext hW) hc, fun W hW => keep33_err S L i xs v W (hr.ext hW) hc⟩
set_option maxRecDepth 100000 in
set_option maxHeartbeats 4000000 in
theorem tolds5 (S L x : Int) (a : Option Addr) (cap : Nat) (xs : List Int) (w : World) (hlen : xs.length ≤ cap ∧ cap ≤ 9223372036854775807) (hr : xs.length ≤ 5000 → Reads w (.slice a xs.length cap) xs) :
    Calls Try.prog 5 #[.agg #[.int .i64 S, .int .i64 L, .slice a xs.length cap], .int .i64 x] w fun e w' => e = .returned (.bool true) ∧ Ext w w' := by
  have E0 := Lib.hid ((Ext.refl w).alloc (.cells #[.int .i64 S, .int .i64 L, .slice a xs.length cap] 24))
  have P0 := Lib.hid (OffAt.new w (.int .i64 S) (.int .i64 L) (.slice a xs.length cap) 24)
  by_cases h20 : 20 < xs.length
  · have hg : decide (20 < xs.length) = true := by simpa using h20
    have HG := Lib.hid hg
    have hn : xs.length ≤ 9223372036854775807 := by omega
    clear hr hg
    go_enter Try.func5, Try.ntmps5
    go_wp2_with fail
    refine (great17 S L _ _ _ _ hn).mono ?_
    rintro e w1 ⟨rfl, hb⟩
    have HE := Lib.hid (E0.out.trans hb); clear hb
    rw [HG.out]
    go_wp2_with fail
    refine (works18 _).mono ?_
    rintro e w2 ⟨rfl, hb⟩
    replace HE := Lib.hid (HE.out.trans hb); clear hb
    go_wp2
    go_ret
    exact ⟨rfl, HE.out⟩
  · have hR := hr (by omega)
    have hg : decide (20 < xs.length) = false := by simpa using h20
    have HG := Lib.hid hg
    have hn : xs.length ≤ 9223372036854775807 := by omega
    obtain ⟨v1, c1, h30, h31⟩ := told_both S L x _ xs w hR
    obtain ⟨v2, c2, h32, h33⟩ := keep_both S L x _ xs w hR
    have H30 := Lib.hid h30; have H31 := Lib.hid h31; have H32 := Lib.hid h32; have H33 := Lib.hid h33
    clear hr hg hR h30 h31 h32 h33
    go_enter Try.func5, Try.ntmps5
    go_wp2_with fail
    refine (great17 S L _ _ _ _ hn).mono ?_
    rintro e w1 ⟨rfl, hb⟩
    obtain ⟨g1, g2, g3⟩ := P0.out.ext hb
    have HE := Lib.hid (E0.out.trans hb); clear hb
    rw [HG.out]
    go_wp2_with fail
    refine (H30.out _ HE.out).mono ?_
    rintro e w2 ⟨rfl, hb⟩
    obtain ⟨g1, g2, g3⟩ := OffAt.ext ⟨g1, g2, g3⟩ hb
    replace HE := Lib.hid (HE.out.trans hb); clear hb
    go_wp2_with fail
    refine (H31.out _ HE.out).mono ?_
    rintro e w3 ⟨rfl, hb⟩
    obtain ⟨g1, g2, g3⟩ := OffAt.ext ⟨g1, g2, g3⟩ hb
    replace HE := Lib.hid (HE.out.trans hb); clear hb
    go_wp2_with fail
    refine (H32.out _ HE.out).mono ?_
    rintro e w4 ⟨rfl, hb⟩
    obtain ⟨g1, g2, g3⟩ := OffAt.ext ⟨g1, g2, g3⟩ hb
    replace HE := Lib.hid (HE.out.trans hb); clear hb
    go_wp2_with fail
    refine (H33.out _ HE.out).mono ?_
    rintro e w5 ⟨rfl, hb⟩
    obtain ⟨g1, g2, g3⟩ := OffAt.ext ⟨g1, g2, g3⟩ hb
    replace HE := Lib.hid (HE.out.trans hb); clear hb
    go_wp2_with fail
    refine (works18 _).mono ?_
    rintro e w8 ⟨rfl, hb⟩
    replace HE := Lib.hid (HE.out.trans hb); clear hb
    go_wp2
    go_ret
    exact ⟨rfl, HE.out⟩
end Go.Proofs.Ytlgdnbpboonhdaa
