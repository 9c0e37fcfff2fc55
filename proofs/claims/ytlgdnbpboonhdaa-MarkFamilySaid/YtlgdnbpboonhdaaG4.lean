/- The reference's Picked. -/
import Derived.Test.YtlgdnbpboonhdaaG2
import Derived.Test.YtlgdnbpboonhdaaG3
namespace Go.Proofs.Ytlgdnbpboonhdaa
open Go.RowKit Go.Shelf Go.Maps
set_option linter.unusedVariables false
attribute [local go_sem] Oper.semAt_some
set_option maxRecDepth 100000 in
set_option maxHeartbeats 2000000 in
theorem picked52 (qs l : List Nat) (v u : Value) (w : World) (hv : Reads w v (ints qs)) (hu : Reads w u (ints l)) (hl : ∀ i ∈ l, i < qs.length) :
    Calls Try.prog 52 #[v, u] w fun e w' => ∃ u', e = .returned u' ∧ Reads w' u' (ints (l.map (mAt qs))) ∧ Ext w w' := by
  obtain ⟨hl1, a1, cap1, rfl⟩ := hv.shape
  obtain ⟨hl2, a2, cap2, rfl⟩ := hu.shape
  rw [ints_length] at hv hu hl1 hl2
  rw [ints_length, ints_length]
  have HV := Lib.hid hv
  have HU := Lib.hid hu
  have HL := Lib.hid hl
  obtain ⟨n, hn⟩ : ∃ n, n = qs.length := ⟨_, rfl⟩
  obtain ⟨ln, hln⟩ : ∃ ln, ln = l.length := ⟨_, rfl⟩
  rw [← hn] at HV hl1 ⊢
  rw [← hln] at HU hl2 ⊢
  have HN := Lib.hid hn
  have HLN := Lib.hid hln
  clear hv hu hl hn hln
  go_enter Try.func52, Try.ntmps52
  go_wp2
  go_loopw [5, 6] (fun v i wr => ∃ k : Nat, k ≤ ln ∧ i = .int .i64 (k : Int) ∧ Hid (Ext w wr) ∧ Hid (Owns w.heap.size wr v (ints ((l.take k).map (mAt qs))))) (fun v i wr => ln - (RowKit.intOf i).toNat)
  case atStart => exact ⟨0, Nat.zero_le _, rfl, Ext.refl _, (Owns.nil _ _ : Owns _ _ _ _)⟩
  case round =>
    obtain ⟨k, hk, rfl, hE, hO⟩ := hrel
    by_cases hlt : k < ln
    · obtain ⟨i, hi⟩ := get_some (show k < l.length by rw [← HLN.out]; exact hlt)
      have hin : i < n := by rw [HN.out]; exact HL.out i (List.mem_of_getElem? hi)
      obtain ⟨q, hq⟩ := get_some (show i < qs.length by rw [← HN.out]; exact hin)
      obtain ⟨b1, off1, hbo, -, hc1⟩ := (HU.out.ext hE.out).atN hi
      subst hbo
      obtain ⟨b2, off2, hbo, -, hc2⟩ := (HV.out.ext hE.out).atN hq
      subst hbo
      have hps : (l.take (k + 1)).map (mAt qs) = (l.take k).map (mAt qs) ++ [q] := by rw [take_snoc hi, List.map_append]; simp [mAt_of hq]
      have hpl : ((l.take k).map (mAt qs)).length ≤ 5000 := by simp; omega
      have HPS := Lib.hid hps
      clear hps hi hq
      have hka : (0 : Int) ≤ (k : Int) := by omega
      have hkb : (k : Int) < (ln : Int) := by omega
      have hia : (0 : Int) ≤ (i : Int) := by omega
      have hib : (i : Int) < (n : Int) := by omega
      go_wp2_with (at_builtin; refine append1 _ w.heap.size _ _ _ _ _ rfl rfl rfl hO.out (Below.size hE.out) (by rw [ints_length]; exact hpl) rfl ?_; intro v' w3 hO3 hB3)
      have HO3 := Lib.hid hO3; have HB3 := Lib.hid (Below.trans hE.out hB3); clear hO3 hB3
      go_wp2
      go_roundw
      case rel => exact ⟨k + 1, by omega, by go_num, HB3.out, (by rw [HPS.out]; simpa [ints] using HO3.out : Owns _ _ _ _)⟩
      case measure => simp [RowKit.intOf]; omega
    · have hje : ln = k := by omega
      subst hje
      have hO2 := hO.out
      rw [HLN.out, List.take_length] at hO2
      have HO2 := Lib.hid hO2
      clear hO2
      go_wp2
      go_ret
      exact ⟨_, rfl, HO2.out.reads (by rw [ints_length, List.length_map, ← HLN.out]; exact hl2), hE.out⟩
end Go.Proofs.Ytlgdnbpboonhdaa
