/- The reference's behind, and Placed. -/
import Derived.Test.YtcgheakadfjofaaK1
import Derived.Test.YtcgheakadfjofaaH2
namespace Go.Proofs.Ytcgheakadfjofaa
open Go.RowKit
set_option linter.unusedVariables false
set_option linter.unusedSimpArgs false
attribute [local go_sem] Oper.semAt_some
/-- It is meant from the beginning, or is in a list. -/
def hitB (s : Bool) (l : List Int) (i : Nat) : Bool := s || l.any fun b => b == (i : Int)
theorem hitB_nil (s : Bool) (i : Nat) : hitB s [] i = s := by simp [hitB]
theorem hitB_snoc (s : Bool) (l : List Int) (x : Int) (i : Nat) : hitB s (l ++ [x]) i = (hitB s l i || x == (i : Int)) := by simp [hitB, Bool.or_assoc]
theorem hitB_iff {s : Bool} {l : List Int} {i : Nat} : hitB s l i = true ↔ s = true ∨ (i : Int) ∈ l := by
  unfold hitB
  rw [Bool.or_eq_true, List.any_eq_true]
  constructor
  · rintro (h | ⟨b, hb, he⟩)
    · exact .inl h
    · rw [beq_iff_eq] at he; subst he; exact .inr hb
  · rintro (h | h)
    · exact .inl h
    · exact .inr ⟨_, h, by simp⟩
theorem Try.info3 : (Try.prog.info? 3).map (fun i => (i.zero, i.size, i.bytes)) = some (some (.int .i64 0), 1, 8) := by kernel_rfl
set_option maxRecDepth 100000 in
set_option maxHeartbeats 2000000 in
theorem behind92 (vt vb : Value) (th bd : List Int) (p : Nat) (w : World) (ht : Reads w vt th) (hd : Reads w vb bd) (h2 : 2 ≤ th.length) (h61 : th.length ≤ 61) :
    Calls Try.prog 92 #[.agg #[vt, vb], .int .i64 (p : Int)] w fun e w' => ∃ v, e = .returned v ∧ Reads w' v (badL (th.length - 1) fun i => hitB (decide (p ≤ i)) bd i) ∧ Ext w w' := by
  obtain ⟨hl, a, cap, rfl⟩ := ht.shape
  obtain ⟨hl', a', cap', rfl⟩ := hd.shape
  obtain ⟨n1, hn⟩ : ∃ n, n = th.length := ⟨_, rfl⟩
  obtain ⟨m, hm⟩ : ∃ m, n1 = m + 1 := ⟨n1 - 1, by omega⟩
  rw [← hn] at ht hl h2 h61 ⊢
  rw [show n1 - 1 = m from by omega]
  obtain ⟨nb, hnb⟩ : ∃ n, n = bd.length := ⟨_, rfl⟩
  rw [← hnb] at hd hl' ⊢
  have E0 := Lib.hid (Ext.alloc (Ext.refl w) (.cells #[.slice a n1 cap, .slice a' nb cap'] 25))
  have P0 := Lib.hid (StemAt.new w (.slice a n1 cap) (.slice a' nb cap') 25)
  have C43 := Lib.hid (fun (W : World) => long43 a n1 cap (.slice a' nb cap') W hl)
  obtain ⟨W0, hW0⟩ : ∃ W0, W0 = w.alloc (.cells #[.slice a n1 cap, .slice a' nb cap'] 25) := ⟨_, rfl⟩
  rw [← hW0] at E0 P0
  have HW0 := Lib.hid hW0
  have HD := Lib.hid hd; have HNB := Lib.hid hnb
  clear hn ht hd hnb hW0
  subst hm
  go_enter Try.func92, Try.ntmps92
  go_wp2_with fail
  rw [← HW0.out]
  go_loopw [5, 6] (fun o s wr => ∃ i : Nat, i ≤ m ∧ s = .int .i64 (i : Int) ∧ Hid (OwnI 3 W0.heap.size wr o (badL i fun i => hitB (decide (p ≤ i)) bd i)) ∧ Hid (Ext W0 wr)) (fun o s wr => m - (intV s).toNat)
  case atStart => exact ⟨0, Nat.zero_le _, rfl, Lib.hid (OwnI.nil _ _ _), Lib.hid (Ext.refl _)⟩
  case round =>
    obtain ⟨i, hi, rfl, hO, hX⟩ := hrel
    obtain ⟨ao, capo, rfl, hcapo⟩ := hO.out.shape
    have hlen := badL_len i fun i => hitB (decide (p ≤ i)) bd i
    have hsucc := badL_succ i fun i => hitB (decide (p ≤ i)) bd i
    obtain ⟨bl, hbl⟩ : ∃ bl, bl = badL i fun i => hitB (decide (p ≤ i)) bd i := ⟨_, rfl⟩
    rw [← hbl] at hO hlen hcapo hsucc ⊢
    obtain ⟨cl, hcl⟩ : ∃ m, m = bl.length := ⟨_, rfl⟩
    rw [← hcl] at hO hlen hcapo ⊢
    have HCL := Lib.hid hcl; have HBL := Lib.hid hbl; have HS := Lib.hid hsucc
    clear hcl hbl hsucc
    obtain ⟨g1, g2⟩ := P0.out.ext hX.out
    go_wp2_with fail
    refine (C43.out _).mono ?_
    rintro e w3 ⟨rfl, hb⟩
    have HX3 := Lib.hid (hX.out.trans hb)
    have HO3 := Lib.hid (hO.out.ext hb)
    clear hb g1 g2
    obtain ⟨g1, g2⟩ := P0.out.ext HX3.out
    by_cases hlt : i < m
    · have hlt1 : (i : Int) < ((m + 1 : Nat) : Int) - 1 := by omega
      have hd1 : decide ((i : Int) < ((m + 1 : Nat) : Int) - 1) = true := by simp; omega
      obtain ⟨s0, hs0⟩ : ∃ s0, s0 = decide (p ≤ i) := ⟨_, rfl⟩
      have HS0 := Lib.hid hs0
      have hs1 : decide ((i : Int) ≥ (p : Int)) = s0 := by rw [hs0, Bool.eq_iff_iff]; simp
      have hs2 : decide ((p : Int) ≤ (i : Int)) = s0 := by rw [hs0, Bool.eq_iff_iff]; simp
      have hs3 : decide (p ≤ i) = s0 := hs0.symm
      clear hs0
      go_wp2_with fail
      go_loopw [7, 8] (fun s t wr => ∃ k : Nat, k ≤ nb ∧ t = .int .i64 (k : Int) ∧ s = .bool (hitB s0 (bd.take k) i) ∧ Hid (Ext w3 wr)) (fun s t wr => nb - (intV t).toNat)
      case atStart => exact ⟨0, Nat.zero_le _, rfl, by rw [List.take_zero, hitB_nil], Lib.hid (Ext.refl _)⟩
      case round =>
        obtain ⟨k, hk, rfl, rfl, hY⟩ := hrel
        obtain ⟨g1, g2⟩ := P0.out.ext (HX3.out.trans hY.out)
        by_cases hlk : k < nb
        · obtain ⟨b2, off, x, rfl, hx, hcx⟩ := (HD.out.ext (E0.out.trans (HX3.out.trans hY.out))).at (show k < bd.length by rw [← HNB.out]; exact hlk)
          have HT := Lib.hid (show hitB s0 (bd.take (k + 1)) i = (hitB s0 (bd.take k) i || x == (i : Int)) by rw [take_snoc hx, hitB_snoc])
          have hka : (0 : Int) ≤ (k : Int) := by omega
          have hkb : (k : Int) < (nb : Int) := by omega
          have htk : (k : Int).toNat = k := by omega
          clear hx
          cases hh : hitB s0 (bd.take k) i
          · have HN := Lib.hid (show hitB s0 (bd.take (k + 1)) i = (x == (i : Int)) by rw [HT.out, hh, Bool.false_or])
            clear hh HT
            go_wp2_with fail
            go_roundw
            case rel => exact ⟨k + 1, by omega, by go_num, by rw [HN.out], hY⟩
            case measure => simp [intV]; omega
          · have HN := Lib.hid (show hitB s0 (bd.take (k + 1)) i = true by rw [HT.out, hh, Bool.true_or])
            clear hh HT
            go_wp2_with fail
            go_roundw
            case rel => exact ⟨k + 1, by omega, by go_num, by rw [HN.out], hY⟩
            case measure => simp [intV]; omega
        · have hkb : ¬ (k : Int) < (nb : Int) := by omega
          have hk2 : k = bd.length := by rw [← HNB.out]; omega
          have HTT := Lib.hid (show bd.take k = bd by rw [hk2]; exact List.take_length)
          clear hk2
          rw [HTT.out]
          have HX4 := Lib.hid (HX3.out.trans hY.out)
          have HO4 := Lib.hid (HO3.out.ext hY.out)
          cases hh : hitB s0 bd i
          · have HN := Lib.hid (show badL (i + 1) (fun i => hitB (decide (p ≤ i)) bd i) = bl by rw [HS.out, ← HS0.out, hh]; simp)
            clear hh
            go_wp2_with fail
            go_roundw
            case rel => exact ⟨i + 1, by omega, by go_num, Lib.hid (by rw [HN.out]; exact HO4.out), HX4⟩
            case measure => simp [intV]; omega
          · have HN := Lib.hid (show badL (i + 1) (fun i => hitB (decide (p ≤ i)) bd i) = bl ++ [(i : Int)] by rw [HS.out, ← HS0.out, hh]; simp)
            clear hh
            go_wp2_with (at_builtin; first
              | (refine appendI Try.underlying23 Try.info3 wr W0.heap.size bl (i : Int) _ _ _ rfl rfl rfl HO4.out HX4.out.size (by rw [← HCL.out]; omega) rfl ?_
                 intro v6 w6 hO6 hB6
                 have HO6 := Lib.hid hO6
                 have HB6 := Lib.hid hB6
                 clear hO6 hB6)
              | fail)
            go_roundw
            case rel => exact ⟨i + 1, by omega, by go_num, Lib.hid (by rw [HN.out]; exact HO6.out), Lib.hid (Below.trans HX4.out HB6.out)⟩
            case measure => simp [intV]; omega
    · have hlt1 : ¬ (i : Int) < ((m + 1 : Nat) : Int) - 1 := by omega
      have hd1 : decide ((i : Int) < ((m + 1 : Nat) : Int) - 1) = false := by simp; omega
      have hie : i = m := by omega
      go_wp2_with fail
      go_ret
      refine ⟨_, rfl, ?_, E0.out.trans HX3.out⟩
      subst hie
      rw [← HBL.out]
      refine OwnI.reads (e := 3) (B := W0.heap.size) ?_ (by rw [← HCL.out]; omega)
      exact HO3.out
set_option maxRecDepth 100000 in
theorem placed73 (vt vb : Value) (th bd : List Int) (r : Rl) (p : Int) (w : World) (ht : Reads w vt th) (hd : Reads w vb bd) :
    Calls Try.prog 73 #[.agg #[vt, vb], r.val, .int .i64 p] w fun e w' => e = .returned (.int .i64 (placedE th bd r [p])) ∧ Ext w w' := by
  obtain ⟨hl, a, cap, rfl⟩ := ht.shape
  obtain ⟨n, hn⟩ : ∃ n, n = th.length := ⟨_, rfl⟩
  rw [← hn] at hl ht ⊢
  have HE := Lib.hid (Ext.alloc (Ext.alloc (Ext.refl w) (.cells #[.slice a n cap, vb] 25)) (.cells #[.int .i64 r.lo, .int .i64 r.hi, .int .i64 r.st, .int .i64 r.tr, .int .i64 r.off, .int .i64 r.dv, .int .i64 r.tn] 27))
  have HP := Lib.hid (SR.new w (.slice a n cap) vb r)
  have C53 := Lib.hid (fun (W : World) (h : Ext w W) => refcheck53 _ _ th bd r W (ht.ext h) (hd.ext h))
  have C43 := Lib.hid (fun (W : World) => long43 a n cap vb W hl)
  have hpl : placedE th bd r [p] = if bothE th bd r = 0 then (if 0 ≤ p ∧ p ≤ (n : Int) - 1 then 0 else 2) else bothE th bd r := by
    unfold placedE
    by_cases hin : 0 ≤ p ∧ p ≤ (n : Int) - 1
    · rw [if_pos hin, if_pos (show inn 0 ((th.length : Int) - 1) [p] = true by rw [← hn]; simp [inn]; exact hin)]
    · rw [if_neg hin, if_neg (show ¬ inn 0 ((th.length : Int) - 1) [p] = true by rw [← hn]; simp [inn]; omega)]
  generalize placedE th bd r [p] = PE at *
  generalize bothE th bd r = E at *
  have HPL := Lib.hid hpl
  clear hn ht hd hpl
  obtain ⟨⟨g1, g2⟩, r0, r1, r2, r3, r4, r5, r6⟩ := HP.out
  go_enter Try.func73, Try.ntmps73
  go_wp2_with fail
  refine (C53.out _ HE.out).mono ?_
  rintro e w1 ⟨rfl, hb⟩
  obtain ⟨⟨g1, g2⟩, r0, r1, r2, r3, r4, r5, r6⟩ := HP.out.ext hb
  have HE := Lib.hid (HE.out.trans hb)
  have HP := Lib.hid (HP.out.ext hb)
  clear hb
  by_cases hE : E = 0
  · have hEb : (E != 0) = false := by simpa using hE
    have HR := Lib.hid (show PE = if 0 ≤ p ∧ p ≤ (n : Int) - 1 then 0 else 2 by rw [HPL.out, if_pos hE])
    clear hE
    by_cases hp0 : p < 0
    · have hpb : decide (p < 0) = true := by simpa using hp0
      have HR2 := Lib.hid (show PE = 2 by rw [HR.out, if_neg (by omega)])
      clear hp0
      go_wp2_with fail
      go_ret
      exact ⟨by rw [HR2.out]; rfl, HE.out⟩
    · have hpb : decide (p < 0) = false := by simpa using hp0
      clear hpb
      have hpc : ¬ p < 0 := hp0
      clear hp0
      go_wp2_with fail
      refine (C43.out _).mono ?_
      rintro e w2 ⟨rfl, hb⟩
      have HE := Lib.hid (HE.out.trans hb)
      clear hb
      by_cases hp1 : p > (n : Int) - 1
      · have hpb : decide (p > (n : Int) - 1) = true := by simp; omega
        have hpb2 : decide ((n : Int) - 1 < p) = true := by simp; omega
        have HR2 := Lib.hid (show PE = 2 by rw [HR.out, if_neg (by omega)])
        go_wp2_with fail
        go_ret
        exact ⟨by rw [HR2.out]; rfl, HE.out⟩
      · have hpb : decide (p > (n : Int) - 1) = false := by simp; omega
        have hpb2 : decide ((n : Int) - 1 < p) = false := by simp; omega
        have HR2 := Lib.hid (show PE = 0 by rw [HR.out, if_pos (by omega)])
        go_wp2_with fail
        go_ret
        exact ⟨by rw [HR2.out]; rfl, HE.out⟩
  · have hEb : (E != 0) = true := by simpa using hE
    have HR2 := Lib.hid (show PE = E by rw [HPL.out, if_neg hE])
    clear hE
    go_wp2_with fail
    refine (C53.out _ HE.out).mono ?_
    rintro e w2 ⟨rfl, hb⟩
    have HE := Lib.hid (HE.out.trans hb)
    clear hb
    go_wp2_with fail
    go_ret
    exact ⟨by rw [HR2.out]; rfl, HE.out⟩
end Go.Proofs.Ytcgheakadfjofaa
