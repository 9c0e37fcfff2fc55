/- The reference's Asked: the errors of an office, and of marks that are asked for. -/
import Derived.Test.YtlgdnbpboonhdaaF7
import Derived.Test.YtlgdnbpboonhdaaM7
namespace Go.Proofs.Ytlgdnbpboonhdaa
open Go.RowKit Go.Shelf Go.Maps
set_option linter.unusedVariables false
attribute [local go_sem] Oper.semAt_some
def askC (S L : Int) (xs ys : List Int) : Int := if chk S L xs ≠ 0 then chk S L xs else if 12 < ys.length then 6 else if inR 1 (full S.toNat) ys = true then 0 else 3
set_option maxRecDepth 100000 in
theorem asked81_err (S L : Int) (xs ys : List Int) (v u : Value) (w : World) (hr : Reads w v xs) (hu : Reads w u ys) (hc : chk S L xs ≠ 0) :
    Calls Try.prog 81 #[.agg #[.int .i64 S, .int .i64 L, v], u] w fun e w' => e = .returned (.int .i64 (chk S L xs)) ∧ Ext w w' := by
  obtain ⟨hl, a, cap, rfl⟩ := hr.shape
  have E0 := Lib.hid ((Ext.refl w).alloc (.cells #[.int .i64 S, .int .i64 L, .slice a xs.length cap] 24))
  have P0 := Lib.hid (OffAt.new w (.int .i64 S) (.int .i64 L) (.slice a xs.length cap) 24)
  have HR := Lib.hid hr; clear hr
  obtain ⟨c, hc'⟩ : ∃ c, c = chk S L xs := ⟨_, rfl⟩
  rw [← hc'] at hc ⊢
  have HC := Lib.hid hc'; clear hc'
  have hd : (c != 0) = true := by simpa using hc
  clear hc
  go_enter Try.func81, Try.ntmps81
  go_wp2_with fail
  refine (check22 _ _ _ xs _ (HR.out.ext E0.out)).mono ?_
  rintro e w1 ⟨rfl, hb⟩
  obtain ⟨g1, g2, g3⟩ := P0.out.ext hb
  have HB := Lib.hid (E0.out.trans hb); clear hb
  rw [← HC.out]
  go_wp2_with fail
  refine (check22 _ _ _ xs _ (HR.out.ext HB.out)).mono ?_
  rintro e w2 ⟨rfl, hb⟩
  replace HB := Lib.hid (HB.out.trans hb); clear hb
  rw [← HC.out]
  go_wp2
  go_ret
  exact ⟨rfl, HB.out⟩
set_option maxRecDepth 100000 in
set_option maxHeartbeats 2000000 in
theorem asked81_in (S L : Nat) (ms : List Nat) (ys : List Int) (v u : Value) (w : World) (hv : Valid S L ms) (hr : Reads w v (ints ms)) (hu : Reads w u ys) :
    Calls Try.prog 81 #[.agg #[.int .i64 (S : Int), .int .i64 (L : Int), v], u] w fun e w' => e = .returned (.int .i64 (if 12 < ys.length then 6 else if inR 1 (full S : Int) ys = true then 0 else 3)) ∧ Ext w w' := by
  obtain ⟨hl, a, cap, rfl⟩ := hr.shape
  obtain ⟨hl2, a2, cap2, rfl⟩ := hu.shape
  rw [ints_length] at hr hl ⊢
  have E0 := Lib.hid ((Ext.refl w).alloc (.cells #[.int .i64 (S : Int), .int .i64 (L : Int), .slice a ms.length cap] 24))
  have P0 := Lib.hid (OffAt.new w (.int .i64 (S : Int)) (.int .i64 (L : Int)) (.slice a ms.length cap) 24)
  have HC := Lib.hid (chk_ok hv)
  have HR := Lib.hid hr
  have HU := Lib.hid hu
  have hf := full_lt S hv.2.1
  have H43 := Lib.hid (fun v W => all43_any S (L : Int) v W hv.1 hv.2.1)
  obtain ⟨fS, hfS⟩ : ∃ fS, fS = full S := ⟨_, rfl⟩
  rw [← hfS] at H43 hf ⊢
  clear hr hu hv hfS
  by_cases hm : 12 < ys.length
  · rw [if_pos hm]
    have hd : decide ((12 : Int) < (ys.length : Int)) = true := by simp; omega
    go_enter Try.func81, Try.ntmps81
    go_wp2_with fail
    refine (check22 _ _ _ (ints ms) _ (HR.out.ext E0.out)).mono ?_
    rintro e w1 ⟨rfl, hb⟩
    have HB := Lib.hid (E0.out.trans hb); clear hb
    rw [HC.out]
    go_wp2
    go_ret
    exact ⟨rfl, HB.out⟩
  · rw [if_neg hm]
    have hd : decide ((12 : Int) < (ys.length : Int)) = false := by simp; omega
    obtain ⟨n, hn⟩ : ∃ n, n = ys.length := ⟨_, rfl⟩
    rw [← hn] at hm hd HU hl2 ⊢
    have HN := Lib.hid hn; clear hn
    obtain ⟨c, hc⟩ : ∃ c : Int, c = (if inR 1 (fS : Int) ys = true then 0 else 3) := ⟨_, rfl⟩
    rw [← hc]
    have HCC := Lib.hid hc; clear hc
    go_enter Try.func81, Try.ntmps81
    go_wp2_with fail
    refine (check22 _ _ _ (ints ms) _ (HR.out.ext E0.out)).mono ?_
    rintro e w1 ⟨rfl, hb⟩
    have P1 := Lib.hid (P0.out.ext hb)
    have HB := Lib.hid (E0.out.trans hb); clear hb
    rw [HC.out]
    go_wp2
    go_loopw [5] (fun i wr => ∃ k : Nat, k ≤ n ∧ i = .int .i64 (k : Int) ∧ Hid (Ext w1 wr) ∧ Hid (inR 1 (fS : Int) (ys.take k) = true)) (fun i wr => n - (RowKit.intOf i).toNat)
    case atStart => exact ⟨0, Nat.zero_le _, rfl, Ext.refl _, (rfl : _ = _)⟩
    case round =>
      obtain ⟨k, hk, rfl, hE, hI⟩ := hrel
      obtain ⟨g1, g2, g3⟩ := P1.out.ext hE.out
      by_cases hlt : k < n
      · obtain ⟨b, off, x, hbo, hx, hck⟩ := (HU.out.ext (HB.out.trans hE.out)).at (show k < ys.length by rw [← HN.out]; exact hlt)
        subst hbo
        have HX := Lib.hid hx; clear hx
        have hka : (0 : Int) ≤ (k : Int) := by omega
        have hkb : (k : Int) < (n : Int) := by omega
        by_cases hx1 : x < 1
        · have hd1 : decide (x < 1) = true := by simpa using hx1
          go_wp2
          go_quiet (fail)
          go_wp2
          go_ret
          exact ⟨ret_int (by rw [HCC.out, inR_false _ _ _ _ _ HX.out (Or.inl hx1)]; rfl), HB.out.trans (hE.out.drewN _ : Ext _ _)⟩
        · have hd1 : decide (x < 1) = false := by simpa using hx1
          by_cases hx2 : (fS : Int) < x
          all_goals
            go_wp2
            have KP : ∀ X X' : World, (X.cell? ⟨w.heap.size, 0, none⟩ = some (.int .i64 (S : Int)) ∧ X.cell? ⟨w.heap.size, 1, none⟩ = some (.int .i64 (L : Int)) ∧ X.cell? ⟨w.heap.size, 2, none⟩ = some (.slice a ms.length cap) ∧ X.cell? ⟨b, off + k, none⟩ = some (.int .i64 x) ∧ Hid (Ext wr X)) → Ext X X' → (X'.cell? ⟨w.heap.size, 0, none⟩ = some (.int .i64 (S : Int)) ∧ X'.cell? ⟨w.heap.size, 1, none⟩ = some (.int .i64 (L : Int)) ∧ X'.cell? ⟨w.heap.size, 2, none⟩ = some (.slice a ms.length cap) ∧ X'.cell? ⟨b, off + k, none⟩ = some (.int .i64 x) ∧ Hid (Ext wr X')) :=
              fun X X' h hb => ⟨cell_ext hb h.1, cell_ext hb h.2.1, cell_ext hb h.2.2.1, cell_ext hb h.2.2.2.1, Ext.trans h.2.2.2.2.out hb⟩
            have HKP := Lib.hid KP; clear KP
            go_region_held3 (fun X => X.cell? ⟨w.heap.size, 0, none⟩ = some (.int .i64 (S : Int)) ∧ X.cell? ⟨w.heap.size, 1, none⟩ = some (.int .i64 (L : Int)) ∧ X.cell? ⟨w.heap.size, 2, none⟩ = some (.slice a ms.length cap) ∧ X.cell? ⟨b, off + k, none⟩ = some (.int .i64 x) ∧ Hid (Ext wr X))
              (first | assumption | exact ⟨g1, g2, g3, hck, Ext.drew (Ext.refl _)⟩ | exact HKP.out _ _ (by assumption) hb | fail)
              (first | (go_at_call 43; refine (H43.out _ _).mono ?_; rintro e w' ⟨rfl, hb⟩) | fail)
            rename_i hkk
            have HK := Lib.hid (hE.out.trans hkk.2.2.2.2.out)
            clear hkk
            go_wp2
          · go_ret
            exact ⟨ret_int (by rw [HCC.out, inR_false _ _ _ _ _ HX.out (Or.inr hx2)]; rfl), HB.out.trans HK.out⟩
          · go_roundw
            case rel => exact ⟨k + 1, by omega, by go_num, HK.out, (by rw [inR_snoc _ _ _ _ _ HX.out, hI.out]; simp; omega : _ = _)⟩
            case measure => simp [RowKit.intOf]; omega
      · obtain rfl : k = n := by omega
        go_wp2
        go_ret
        refine ⟨ret_int ?_, HB.out.trans hE.out⟩
        have := hI.out
        rw [HN.out, List.take_length] at this
        rw [HCC.out, this]; rfl
theorem asked81 (S L : Int) (xs ys : List Int) (v u : Value) (w : World) (hr : Reads w v xs) (hu : Reads w u ys) :
    Calls Try.prog 81 #[.agg #[.int .i64 S, .int .i64 L, v], u] w fun e w' => e = .returned (.int .i64 (askC S L xs ys)) ∧ Ext w w' := by
  unfold askC
  by_cases hc : chk S L xs = 0
  · obtain ⟨S', L', ms, rfl, rfl, rfl, hv⟩ := chk_zero hc
    rw [if_neg (by simpa using hc)]
    exact asked81_in S' L' ms ys v u w hv hr hu
  · rw [if_pos hc]
    exact asked81_err S L xs ys v u w hr hu hc
end Go.Proofs.Ytlgdnbpboonhdaa
