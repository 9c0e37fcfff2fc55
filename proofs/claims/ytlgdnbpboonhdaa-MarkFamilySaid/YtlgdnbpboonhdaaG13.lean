/- before (51): the order of lists of the same length. -/
import Derived.Test.YtlgdnbpboonhdaaG12
namespace Go.Proofs.Ytlgdnbpboonhdaa
open Go.RowKit Go.Shelf Go.Maps
set_option linter.unusedVariables false
attribute [local go_sem] Oper.semAt_some
theorem lexlt_drop {a b : List Nat} {k x y : Nat} (hx : a[k]? = some x) (hy : b[k]? = some y) : lexlt (a.drop k) (b.drop k) = if x = y then lexlt (a.drop (k + 1)) (b.drop (k + 1)) else decide (x < y) := by
  obtain ⟨h1, h2⟩ := List.getElem?_eq_some_iff.1 hx
  obtain ⟨h3, h4⟩ := List.getElem?_eq_some_iff.1 hy
  rw [List.drop_eq_getElem_cons h1, List.drop_eq_getElem_cons h3, h2, h4]
  rfl
set_option maxRecDepth 100000 in
set_option maxHeartbeats 2000000 in
theorem before51 (la lb : List Nat) (v u : Value) (w : World) (hv : Reads w v (ints la)) (hu : Reads w u (ints lb)) (hl : la.length = lb.length) :
    Calls Try.prog 51 #[v, u] w fun e w' => e = .returned (.bool (lexlt la lb)) ∧ Ext w w' := by
  obtain ⟨hl1, a1, cap1, rfl⟩ := hv.shape
  obtain ⟨hl2, a2, cap2, rfl⟩ := hu.shape
  rw [ints_length] at hv hu hl1 hl2
  rw [ints_length, ints_length, ← hl]
  rw [← hl] at hu
  have HV := Lib.hid hv; have HU := Lib.hid hu
  obtain ⟨n, hn⟩ : ∃ n, n = la.length := ⟨_, rfl⟩
  rw [← hn] at HV HU hl1 ⊢
  have HN := Lib.hid hn
  have HN2 := Lib.hid (hn.trans hl)
  obtain ⟨r, hr⟩ : ∃ r, r = lexlt la lb := ⟨_, rfl⟩
  rw [← hr]
  have HR := Lib.hid (show r = lexlt (la.drop 0) (lb.drop 0) from hr)
  clear hv hu hl hn hr hl2
  go_enter Try.func51, Try.ntmps51
  go_wp2
  go_loopw [5] (fun x wr => ∃ k : Nat, k ≤ n ∧ x = .int .i64 (k : Int) ∧ Hid (Ext w wr) ∧ Hid (r = lexlt (la.drop k) (lb.drop k))) (fun x wr => n - (RowKit.intOf x).toNat)
  case atStart => exact ⟨0, Nat.zero_le _, rfl, Ext.refl _, HR.out⟩
  case round =>
    obtain ⟨k, hk, rfl, hE, hF⟩ := hrel
    by_cases hlt : k < n
    · obtain ⟨x, hx⟩ := get_some (show k < la.length by rw [← HN.out]; exact hlt)
      obtain ⟨y, hy⟩ := get_some (show k < lb.length by rw [← HN2.out]; exact hlt)
      obtain ⟨b1, off1, hbo, -, c0⟩ := (HV.out.ext hE.out).atN hx
      subst hbo
      obtain ⟨b2, off2, hbo, -, c1⟩ := (HU.out.ext hE.out).atN hy
      subst hbo
      have hld := lexlt_drop hx hy
      rw [← hF.out] at hld
      have hka : (0 : Int) ≤ (k : Int) := by omega
      have hkb : (k : Int) < (n : Int) := by omega
      by_cases hxy : x = y
      · subst hxy
        rw [if_pos rfl] at hld
        have HF2 := Lib.hid hld
        clear hld hx hy
        go_wp2
        go_quiet (fail)
        go_wp2
        go_roundw
        case rel => exact ⟨k + 1, by omega, by go_num, (hE.out.drewN _ : Ext _ _), HF2.out⟩
        case measure => simp [RowKit.intOf]; omega
      · rw [if_neg hxy] at hld
        have HF2 := Lib.hid hld
        have hne : ((x : Int) != (y : Int)) = true := by simp; omega
        have hne2 : ((x : Int) == (y : Int)) = false := by simp; omega
        clear hld hx hy
        go_wp2
        go_quiet (fail)
        go_wp2
        go_quiet (fail)
        go_wp2
        go_ret
        refine ⟨?_, ((hE.out.drewN _ : Ext _ _).drewN _ : Ext _ _)⟩
        rw [HF2.out]
        refine ret_bool ?_
        rw [Bool.eq_iff_iff]
    · have hje : n = k := by omega
      subst hje
      have hF2 := hF.out
      rw [List.drop_of_length_le (by rw [← HN.out]; exact Nat.le_refl _)] at hF2
      have HF2 := Lib.hid (show r = false from by rw [hF2]; rfl)
      clear hF2
      go_wp2
      go_ret
      exact ⟨by rw [HF2.out]; rfl, hE.out⟩
end Go.Proofs.Ytlgdnbpboonhdaa
