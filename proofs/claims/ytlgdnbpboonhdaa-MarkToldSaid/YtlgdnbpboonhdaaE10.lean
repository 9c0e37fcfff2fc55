/- Plain facts for MarkTold: after so many losses one owner, after one more two. MarkTold, by its contract. MarkTold, by its contract: any office. -/
import Derived.Test.YtlgdnbpboonhdaaE3
import Derived.Test.YtlgdnbpboonhdaaU9
import Derived.Test.YtlgdnbpboonhdaaO1
namespace Go.Proofs.Ytlgdnbpboonhdaa
open Go.RowKit Go.Shelf Go.Maps
set_option linter.unusedVariables false
theorem othN_iff (ms : List Nat) (L i n x : Nat) : othN ms L i n x = true ↔ ∃ k, k < n ∧ k ≠ i ∧ cb L x (mAt ms k) = true := by
  unfold othN noteTo
  rw [List.any_eq_true]
  constructor
  · rintro ⟨k, h1, h2⟩
    rw [Bool.and_eq_true] at h2
    exact ⟨k, List.mem_range.1 h1, by simpa using h2.1, h2.2⟩
  · rintro ⟨k, h1, h2, h3⟩
    exact ⟨k, List.mem_range.2 h1, by rw [h3]; simp [h2]⟩
theorem told_kept {S L i m : Nat} {t : Int} {ms : List Nat} (hv : Valid S L ms) (hm : ms[i]? = some m) (ht : t ≤ toldV ms L i) (x : Nat) (hc : cb t x m = true) : ownersL L x ms = [i] := by
  have hi : i < ms.length := (List.getElem?_eq_some_iff.1 hm).1
  have hm2 := hv.lt hm
  have hcL : cb L x m = true := cb_mono t L x m (by have := (told_bd ms L i).2; omega) hc
  have hmi : i ∈ ownersL L x ms := (mem_owners _ _ _ _).2 ⟨hi, by rw [mAt_of hm]; exact hcL⟩
  refine only_one (len_le_one _ (owners_nodup _ _ _) ?_) hmi
  have key : ∀ a ∈ ownersL L x ms, a = i := by
    intro a ha
    rw [mem_owners] at ha
    rcases Nat.decEq a i with hne | he
    · exfalso
      have ho := (othN_iff ms L i ms.length x).2 ⟨a, ha.1, hne, ha.2⟩
      have h1 := ((le_told ms L i t).1 ht).2 x (by rw [mAt_of hm]; exact (mem_wornL _ _ _ hm2).2 hcL) ho
      rw [mAt_of hm] at h1
      rw [cb_iff _ _ _ hm2] at hc
      have := pc_dif _ _ hc.1
      omega
    · exact he
  intro a ha b hb
  rw [key a ha, key b hb]
theorem told_more {S L i m : Nat} {ms : List Nat} (hv : Valid S L ms) (hm : ms[i]? = some m) (ht : toldV ms L i < L) : ∃ x, x ≤ m ∧ cb (toldV ms L i + 1) x m = true ∧ othN ms L i ms.length x = true := by
  have h := isTold_eq ms L i m (toldV ms L i + 1) hm (hv.lt hm) (by omega)
  rw [decide_eq_false (by omega)] at h
  unfold isToldTo at h
  rw [List.all_eq_false] at h
  obtain ⟨x, hx, hn⟩ := h
  rw [List.mem_range] at hx
  simp only [Bool.not_eq_true', Bool.not_eq_false, Bool.and_eq_true] at hn
  exact ⟨x, by omega, hn.1, hn.2⟩
theorem two_owners {L i m x : Nat} {ms : List Nat} (hm : ms[i]? = some m) (hc : cb L x m = true) : decide (1 < (ownersL L x ms).length) = othN ms L i ms.length x := by
  have hi : i < ms.length := (List.getElem?_eq_some_iff.1 hm).1
  have hmi : i ∈ ownersL L x ms := (mem_owners _ _ _ _).2 ⟨hi, by rw [mAt_of hm]; exact hc⟩
  cases ho : othN ms L i ms.length x
  · rw [decide_eq_false_iff_not]
    have key : ∀ a ∈ ownersL L x ms, a = i := by
      intro a ha
      rw [mem_owners] at ha
      rcases Nat.decEq a i with hne | he
      · have := (othN_iff ms L i ms.length x).2 ⟨a, ha.1, hne, ha.2⟩
        rw [ho] at this; cases this
      · exact he
    have := len_le_one _ (owners_nodup L x ms) (fun a ha b hb => by rw [key a ha, key b hb])
    omega
  · rw [decide_eq_true_iff]
    obtain ⟨k, h1, h2, h3⟩ := (othN_iff _ _ _ _ _).1 ho
    have := len_two hmi ((mem_owners _ _ _ _).2 ⟨h1, h3⟩) (Ne.symm h2)
    omega
end Go.Proofs.Ytlgdnbpboonhdaa
namespace Go.Proofs.Ytlgdnbpboonhdaa
open Go.RowKit Go.Shelf Go.Maps
set_option linter.unusedVariables false
attribute [local go_sem] Oper.semAt_some
theorem andNot_big (a b : Nat) (ha : a < 1024) : bits .andNot .i64 (a : Int) (b : Int) = ((dif a b : Nat) : Int) := by
  have hx := dif_lt a b ha
  show IntKind.i64.wrap ((BitVec.ofInt 64 (a : Int) &&& ~~~ BitVec.ofInt 64 (b : Int)).toNat : Int) = _
  have e : (BitVec.ofInt 64 (a : Int) &&& ~~~ BitVec.ofInt 64 (b : Int)) = BitVec.ofNat 64 (dif a b) := by
    apply BitVec.eq_of_getLsbD_eq
    intro i hi
    simp only [BitVec.ofInt_natCast, BitVec.getLsbD_and, BitVec.getLsbD_not, BitVec.getLsbD_ofNat, dif, Nat.testBit_xor, Nat.testBit_and, hi]
    cases a.testBit i <;> cases b.testBit i <;> simp
  rw [e, BitVec.toNat_ofNat, Nat.mod_eq_of_lt (by omega), wrapi64]
  omega
theorem dif_sub (a b : Nat) : sub (dif a b) a = true := by
  rw [sub_spec]
  apply Nat.eq_of_testBit_eq
  intro j
  simp only [dif, Nat.testBit_and, Nat.testBit_xor]
  cases a.testBit j <;> cases b.testBit j <;> rfl
set_option maxRecDepth 100000 in
set_option maxHeartbeats 4000000 in
theorem told11_ok (S L : Nat) (a : Option Addr) (cap : Nat) (ms : List Nat) (x y : Nat) (hx : x ≤ 65535) (hy : y ≤ 255) (w : World) (hv : Valid S L ms) (hR : Reads w (.slice a (ints ms).length cap) (ints ms))
    (hf : ∀ W, Ext w W → Calls Try.prog 41 #[.agg #[.int .i64 (S : Int), .int .i64 (L : Int), .slice a (ints ms).length cap]] W fun e w' => e = .returned (.bool true) ∧ Ext W w')
    (hn0 : ms.length ≠ 0) :
    Calls Try.prog 11 #[.agg #[.int .i64 (S : Int), .int .i64 (L : Int), .slice a (ints ms).length cap], .int .u8 (y : Int), .int .u16 (x : Int)] w fun e w' => e = .returned (.bool true) ∧ Ext w w' := by
  have E0 := Lib.hid ((Ext.refl w).alloc (.cells #[.int .i64 (S : Int), .int .i64 (L : Int), .slice a (ints ms).length cap] 24))
  have P0 := Lib.hid (OffAt.new w (.int .i64 (S : Int)) (.int .i64 (L : Int)) (.slice a (ints ms).length cap) 24)
  rw [ints_length] at hR hf E0 P0 ⊢
  have hfs := full_lt S hv.2.1
  have hn12 := hv.2.2.2.1
  have hL10 : L ≤ 10 := by have := hv.2.1; have := hv.2.2.1; omega
  obtain ⟨i, hi⟩ : ∃ i, i = y % ms.length := ⟨_, rfl⟩
  have hin : i < ms.length := by rw [hi]; exact Nat.mod_lt _ (by omega)
  have e7 : (y : Int) % (ms.length : Int) = (i : Int) := by rw [hi]; simp
  clear hi
  obtain ⟨m, hm⟩ := get_some hin
  have hm2 := hv.lt hm
  have hmf := (hv.2.2.2.2 m (List.mem_of_getElem? hm)).2
  have e9 := andNot_big m x hm2
  have hlm := sub_le _ _ (dif_sub m x)
  generalize dif m x = lf at *
  have hlf : lf ≤ full S := by omega
  have hlt : lf < 1024 := by omega
  have HF := Lib.hid (hf _ E0.out)
  have H30 := Lib.hid (fun W (h : Ext w W) => told30_ok S L i ms _ W hv (hR.ext h) hin)
  have H19 := Lib.hid (fun W (h : Ext w W) => owners19_ok S L lf ms _ W hv (hR.ext h) hlf)
  have H19b := Lib.hid (fun (k : Nat) (hk : k ≤ m) W (h : Ext w W) => owners19_ok S L k ms _ W hv (hR.ext h) (by omega))
  have H45 := Lib.hid (fun (k : Nat) (hk : k ≤ m) W (h : Ext w W) => ownersOf45 S L k ms _ W hv (hR.ext h) (by omega))
  have hbd := told_bd ms L i
  have HKEPT := Lib.hid (fun hc => told_kept hv hm (Int.le_refl (toldV ms L i)) lf hc)
  have HMORE := Lib.hid (told_more hv hm)
  generalize toldV ms L i = t at *
  have HTWO := Lib.hid (fun (x : Nat) (hc : cb (t + 1) x m = true) (ht : t < L) => two_owners hm (cb_mono (t + 1) L x m (by omega) hc))
  have H42 := Lib.hid (fun W => canBe42_q lf m t hlt hm2 W)
  have H42b := Lib.hid (fun (k : Nat) (hk : k ≤ m) W => canBe42_q k m (t + 1) (by omega) hm2 W)
  have HR := Lib.hid hR
  have HM := Lib.hid hm
  generalize ownersL L lf ms = o2 at *
  obtain ⟨b0, off0, hbo, -, -⟩ := hR.atN hm
  subst hbo
  obtain ⟨n, hn⟩ : ∃ n, n = ms.length := ⟨_, rfl⟩
  rw [← hn] at hn0 hin e7 HF H30 H19 H19b H45 HMORE HTWO E0 P0 HR ⊢
  have hnz := len_nil_false hn0
  have hnz2 : ¬ (n : Int) = 0 := by omega
  have hia : (0 : Int) ≤ (i : Int) := by omega
  have hib : (i : Int) < (n : Int) := by omega
  have HN := Lib.hid hn
  have ht1 : decide (t < -1) = false := by simp; omega
  have ht2 : decide ((L : Int) < t) = false := by simp; omega
  have hz1 : -1 ≤ t := hbd.1
  have hz2 : t ≤ 10 := by omega
  have HBD := Lib.hid hbd
  have HML := Lib.hid (And.intro hmf hm2)
  clear hf hR hv hm hn hn0 hbd hmf
  have HX0 := Lib.hid (Ext.refl (w.alloc (.cells #[.int .i64 (S : Int), .int .i64 (L : Int), .slice (some ⟨b0, off0, none⟩) n cap] 24)))
  go_enter Try.func11, Try.ntmps11
  go_wp2_with fail
  refine HF.out.mono ?_
  rintro e w1 ⟨rfl, hb⟩
  obtain ⟨g1, g2, g3⟩ := P0.out.ext hb
  have HX := Lib.hid (HX0.out.trans hb); clear hb
  go_wp2_with fail
  refine (H30.out _ (E0.out.trans HX.out)).mono ?_
  rintro e w2 ⟨rfl, hb⟩
  obtain ⟨g1, g2, g3⟩ := OffAt.ext ⟨g1, g2, g3⟩ hb
  replace HX := Lib.hid (HX.out.trans hb); clear hb
  obtain ⟨b1, off1, hbo, -, hcq⟩ := (HR.out.ext (E0.out.trans HX.out)).atN HM.out
  cases hbo
  go_wp2_with fail
  refine (H19.out _ (E0.out.trans HX.out)).mono ?_
  rintro e w4 ⟨u2, rfl, hu2, hb⟩
  obtain ⟨g1, g2, g3⟩ := OffAt.ext ⟨g1, g2, g3⟩ hb
  replace hcq := cell_ext hb hcq
  replace HX := Lib.hid (HX.out.trans hb); clear hb
  obtain ⟨hz3, a2, cap2, rfl⟩ := hu2.shape
  have HU := Lib.hid hu2; clear hu2
  by_cases ht0 : 0 ≤ t
  · have hd0 : decide ((0 : Int) ≤ t) = true := by simpa using ht0
    cases hc : cb t lf m
    · have h42 := H42.out
      rw [hc] at h42
      have H42' := Lib.hid h42
      clear h42 hc
      go_wp2_with fail
      refine (H42'.out _).mono ?_
      rintro e w' ⟨rfl, rfl⟩
      by_cases htL : t = (L : Int)
      · have hd : (t == (L : Int)) = true := by simp [htL]
        clear htL
        go_wp2_with fail
        refine (works18 _).mono ?_
        rintro e w6 ⟨rfl, hb⟩
        have HY := Lib.hid (Ext.trans HX.out hb); clear hb
        go_wp2
        go_ret
        exact ⟨rfl, E0.out.trans HY.out⟩
      · have hd : (t == (L : Int)) = false := by simp [htL]
        have HLT := Lib.hid (show t < (L : Int) from by have := HBD.out.2; omega)
        clear htL
        go_wp2_with fail
        go_loopw [13] (fun k wr => ∃ j : Nat, j ≤ m + 1 ∧ k = .int .i64 (j : Int) ∧ Hid (Ext (w.alloc (.cells #[.int .i64 (S : Int), .int .i64 (L : Int), .slice (some ⟨b0, off0, none⟩) n cap] 24)) wr) ∧ Hid (∀ x, x < j → cb (t + 1) x m = true → othN ms L i n x = false)) (fun k wr => m + 1 - (RowKit.intOf k).toNat)
        case atStart => exact ⟨0, Nat.zero_le _, rfl, HX.out, (fun x h => by omega : ∀ x, x < 0 → cb (t + 1) x m = true → othN ms L i n x = false)⟩
        case round =>
          obtain ⟨j, hj, rfl, hE, hF⟩ := hrel
          obtain ⟨g1, g2, g3⟩ := P0.out.ext hE.out
          obtain ⟨b1, off1, hbo, -, hcq⟩ := (HR.out.ext (E0.out.trans hE.out)).atN HM.out
          cases hbo
          by_cases hlt : j ≤ m
          · have h42 := H42b.out j hlt
            cases hc : cb (t + 1) j m
            · rw [hc] at h42
              have HH := Lib.hid h42
              have HF2 := Lib.hid (show ∀ x, x < j + 1 → cb (t + 1) x m = true → othN ms L i n x = false from fun x hx h => by
                rcases Nat.lt_or_ge x j with h3 | h3
                · exact hF.out x h3 h
                · obtain rfl : x = j := by omega
                  rw [hc] at h; cases h)
              clear h42 hc
              go_wp2_with fail
              refine (HH.out _).mono ?_
              rintro e w' ⟨rfl, rfl⟩
              go_wp2
              go_roundw
              case rel => exact ⟨j + 1, by omega, by go_num, hE.out, HF2.out⟩
              case measure => simp [RowKit.intOf]; omega
            · rw [hc] at h42
              have HH := Lib.hid h42
              have htw := HTWO.out j hc HLT.out
              have HO := Lib.hid (H45.out j hlt)
              have HP := Lib.hid (H19b.out j hlt)
              cases ho : othN ms L i n j
              · rw [ho] at htw
                have HF2 := Lib.hid (show ∀ x, x < j + 1 → cb (t + 1) x m = true → othN ms L i n x = false from fun x hx h => by
                  rcases Nat.lt_or_ge x j with h3 | h3
                  · exact hF.out x h3 h
                  · obtain rfl : x = j := by omega
                    exact ho)
                clear h42 hc ho
                generalize ownersL L j ms = oj at *
                have hl1 : decide ((1 : Int) < ((ints oj).length : Int)) = false := by rw [ints_length]; simp at htw ⊢; omega
                clear htw
                go_wp2_with fail
                refine (HH.out _).mono ?_
                rintro e w' ⟨rfl, rfl⟩
                go_wp2_with fail
                refine (HO.out _ (E0.out.trans hE.out)).mono ?_
                rintro e w5 ⟨u5, rfl, hu5, hb⟩
                have HY := Lib.hid (hE.out.trans hb); clear hb
                obtain ⟨hz5, a5, cap5, rfl⟩ := hu5.shape
                clear hu5
                go_wp2
                go_roundw
                case rel => exact ⟨j + 1, by omega, by go_num, HY.out, HF2.out⟩
                case measure => simp [RowKit.intOf]; omega
              · rw [ho] at htw
                clear h42 hc ho
                generalize ownersL L j ms = oj at *
                have hl1 : decide ((1 : Int) < ((ints oj).length : Int)) = true := by rw [ints_length]; simp at htw ⊢; omega
                clear htw
                go_wp2_with fail
                refine (HH.out _).mono ?_
                rintro e w' ⟨rfl, rfl⟩
                go_wp2_with fail
                refine (HO.out _ (E0.out.trans hE.out)).mono ?_
                rintro e w5 ⟨u5, rfl, hu5, hb⟩
                obtain ⟨g1, g2, g3⟩ := OffAt.ext ⟨g1, g2, g3⟩ hb
                have HY := Lib.hid (hE.out.trans hb); clear hb
                obtain ⟨hz5, a5, cap5, rfl⟩ := hu5.shape
                clear hu5
                go_wp2_with fail
                refine (HP.out _ (E0.out.trans HY.out)).mono ?_
                rintro e w6 ⟨u6, rfl, hu6, hb⟩
                replace HY := Lib.hid (HY.out.trans hb); clear hb
                obtain ⟨hz6, a6, cap6, rfl⟩ := hu6.shape
                clear hu6
                go_wp2_with fail
                refine (works18 _).mono ?_
                rintro e w7 ⟨rfl, hb⟩
                replace HY := Lib.hid (HY.out.trans hb); clear hb
                go_wp2
                go_ret
                exact ⟨rfl, E0.out.trans HY.out⟩
          · exfalso
            obtain ⟨x, h1, h2, h3⟩ := HMORE.out HLT.out
            have := hF.out x (by omega) h2
            rw [h3] at this; cases this
    · have h42 := H42.out
      rw [hc] at h42
      have H42' := Lib.hid h42
      have ho := HKEPT.out hc
      subst ho
      have h23 : ∀ X v', Ext w4 X → Reads X v' [(i : Int)] → Calls Try.prog 23 #[.slice a2 (ints [i]).length cap2, v'] X fun e w' => e = .returned (.bool true) ∧ Ext X w' := by
        intro X v' hX hv'
        have := ints_any _ v' (ints [i]) [(i : Int)] X (HU.out.ext hX) hv'
        rwa [show (ints [i] == [(i : Int)]) = true from by simp [ints]] at this
      have H23 := Lib.hid h23
      clear h42 hc h23
      go_wp2_with fail
      refine (H42'.out _).mono ?_
      rintro e w' ⟨rfl, rfl⟩
      go_wp2_with fail
      refine (H23.out _ _ ((Ext.refl _).alloc _) (reads_new1 _ _ _ rfl)).mono ?_
      rintro e w5 ⟨rfl, hb⟩
      have hb2 := Ext.trans ((Ext.refl w') |>.alloc _) hb
      obtain ⟨g1, g2, g3⟩ := OffAt.ext ⟨g1, g2, g3⟩ hb2
      replace hcq := cell_ext hb2 hcq
      have HK := Lib.hid (HX.out.trans hb2)
      clear hb hb2
      by_cases htL : t = (L : Int)
      · have hd : (t == (L : Int)) = true := by simp [htL]
        clear htL
        go_wp2_with fail
        refine (works18 _).mono ?_
        rintro e w6 ⟨rfl, hb⟩
        have HY := Lib.hid (Ext.trans HK.out hb); clear hb
        go_wp2
        go_ret
        exact ⟨rfl, E0.out.trans HY.out⟩
      · have hd : (t == (L : Int)) = false := by simp [htL]
        have HLT := Lib.hid (show t < (L : Int) from by have := HBD.out.2; omega)
        clear htL
        go_wp2_with fail
        go_loopw [13] (fun k wr => ∃ j : Nat, j ≤ m + 1 ∧ k = .int .i64 (j : Int) ∧ Hid (Ext (w.alloc (.cells #[.int .i64 (S : Int), .int .i64 (L : Int), .slice (some ⟨b0, off0, none⟩) n cap] 24)) wr) ∧ Hid (∀ x, x < j → cb (t + 1) x m = true → othN ms L i n x = false)) (fun k wr => m + 1 - (RowKit.intOf k).toNat)
        case atStart => exact ⟨0, Nat.zero_le _, rfl, HK.out, (fun x h => by omega : ∀ x, x < 0 → cb (t + 1) x m = true → othN ms L i n x = false)⟩
        case round =>
          obtain ⟨j, hj, rfl, hE, hF⟩ := hrel
          obtain ⟨g1, g2, g3⟩ := P0.out.ext hE.out
          obtain ⟨b1, off1, hbo, -, hcq⟩ := (HR.out.ext (E0.out.trans hE.out)).atN HM.out
          cases hbo
          by_cases hlt : j ≤ m
          · have h42 := H42b.out j hlt
            cases hc : cb (t + 1) j m
            · rw [hc] at h42
              have HH := Lib.hid h42
              have HF2 := Lib.hid (show ∀ x, x < j + 1 → cb (t + 1) x m = true → othN ms L i n x = false from fun x hx h => by
                rcases Nat.lt_or_ge x j with h3 | h3
                · exact hF.out x h3 h
                · obtain rfl : x = j := by omega
                  rw [hc] at h; cases h)
              clear h42 hc
              go_wp2_with fail
              refine (HH.out _).mono ?_
              rintro e w' ⟨rfl, rfl⟩
              go_wp2
              go_roundw
              case rel => exact ⟨j + 1, by omega, by go_num, hE.out, HF2.out⟩
              case measure => simp [RowKit.intOf]; omega
            · rw [hc] at h42
              have HH := Lib.hid h42
              have htw := HTWO.out j hc HLT.out
              have HO := Lib.hid (H45.out j hlt)
              have HP := Lib.hid (H19b.out j hlt)
              cases ho : othN ms L i n j
              · rw [ho] at htw
                have HF2 := Lib.hid (show ∀ x, x < j + 1 → cb (t + 1) x m = true → othN ms L i n x = false from fun x hx h => by
                  rcases Nat.lt_or_ge x j with h3 | h3
                  · exact hF.out x h3 h
                  · obtain rfl : x = j := by omega
                    exact ho)
                clear h42 hc ho
                generalize ownersL L j ms = oj at *
                have hl1 : decide ((1 : Int) < ((ints oj).length : Int)) = false := by rw [ints_length]; simp at htw ⊢; omega
                clear htw
                go_wp2_with fail
                refine (HH.out _).mono ?_
                rintro e w' ⟨rfl, rfl⟩
                go_wp2_with fail
                refine (HO.out _ (E0.out.trans hE.out)).mono ?_
                rintro e w5 ⟨u5, rfl, hu5, hb⟩
                have HY := Lib.hid (hE.out.trans hb); clear hb
                obtain ⟨hz5, a5, cap5, rfl⟩ := hu5.shape
                clear hu5
                go_wp2
                go_roundw
                case rel => exact ⟨j + 1, by omega, by go_num, HY.out, HF2.out⟩
                case measure => simp [RowKit.intOf]; omega
              · rw [ho] at htw
                clear h42 hc ho
                generalize ownersL L j ms = oj at *
                have hl1 : decide ((1 : Int) < ((ints oj).length : Int)) = true := by rw [ints_length]; simp at htw ⊢; omega
                clear htw
                go_wp2_with fail
                refine (HH.out _).mono ?_
                rintro e w' ⟨rfl, rfl⟩
                go_wp2_with fail
                refine (HO.out _ (E0.out.trans hE.out)).mono ?_
                rintro e w5 ⟨u5, rfl, hu5, hb⟩
                obtain ⟨g1, g2, g3⟩ := OffAt.ext ⟨g1, g2, g3⟩ hb
                have HY := Lib.hid (hE.out.trans hb); clear hb
                obtain ⟨hz5, a5, cap5, rfl⟩ := hu5.shape
                clear hu5
                go_wp2_with fail
                refine (HP.out _ (E0.out.trans HY.out)).mono ?_
                rintro e w6 ⟨u6, rfl, hu6, hb⟩
                replace HY := Lib.hid (HY.out.trans hb); clear hb
                obtain ⟨hz6, a6, cap6, rfl⟩ := hu6.shape
                clear hu6
                go_wp2_with fail
                refine (works18 _).mono ?_
                rintro e w7 ⟨rfl, hb⟩
                replace HY := Lib.hid (HY.out.trans hb); clear hb
                go_wp2
                go_ret
                exact ⟨rfl, E0.out.trans HY.out⟩
          · exfalso
            obtain ⟨x, h1, h2, h3⟩ := HMORE.out HLT.out
            have := hF.out x (by omega) h2
            rw [h3] at this; cases this
  · have hd0 : decide ((0 : Int) ≤ t) = false := by simpa using ht0
    by_cases htL : t = (L : Int)
    · have hd : (t == (L : Int)) = true := by simp [htL]
      clear htL
      go_wp2_with fail
      refine (works18 _).mono ?_
      rintro e w6 ⟨rfl, hb⟩
      have HY := Lib.hid (Ext.trans HX.out hb); clear hb
      go_wp2
      go_ret
      exact ⟨rfl, E0.out.trans HY.out⟩
    · have hd : (t == (L : Int)) = false := by simp [htL]
      have HLT := Lib.hid (show t < (L : Int) from by have := HBD.out.2; omega)
      clear htL
      go_wp2_with fail
      go_loopw [13] (fun k wr => ∃ j : Nat, j ≤ m + 1 ∧ k = .int .i64 (j : Int) ∧ Hid (Ext (w.alloc (.cells #[.int .i64 (S : Int), .int .i64 (L : Int), .slice (some ⟨b0, off0, none⟩) n cap] 24)) wr) ∧ Hid (∀ x, x < j → cb (t + 1) x m = true → othN ms L i n x = false)) (fun k wr => m + 1 - (RowKit.intOf k).toNat)
      case atStart => exact ⟨0, Nat.zero_le _, rfl, HX.out, (fun x h => by omega : ∀ x, x < 0 → cb (t + 1) x m = true → othN ms L i n x = false)⟩
      case round =>
        obtain ⟨j, hj, rfl, hE, hF⟩ := hrel
        obtain ⟨g1, g2, g3⟩ := P0.out.ext hE.out
        obtain ⟨b1, off1, hbo, -, hcq⟩ := (HR.out.ext (E0.out.trans hE.out)).atN HM.out
        cases hbo
        by_cases hlt : j ≤ m
        · have h42 := H42b.out j hlt
          cases hc : cb (t + 1) j m
          · rw [hc] at h42
            have HH := Lib.hid h42
            have HF2 := Lib.hid (show ∀ x, x < j + 1 → cb (t + 1) x m = true → othN ms L i n x = false from fun x hx h => by
              rcases Nat.lt_or_ge x j with h3 | h3
              · exact hF.out x h3 h
              · obtain rfl : x = j := by omega
                rw [hc] at h; cases h)
            clear h42 hc
            go_wp2_with fail
            refine (HH.out _).mono ?_
            rintro e w' ⟨rfl, rfl⟩
            go_wp2
            go_roundw
            case rel => exact ⟨j + 1, by omega, by go_num, hE.out, HF2.out⟩
            case measure => simp [RowKit.intOf]; omega
          · rw [hc] at h42
            have HH := Lib.hid h42
            have htw := HTWO.out j hc HLT.out
            have HO := Lib.hid (H45.out j hlt)
            have HP := Lib.hid (H19b.out j hlt)
            cases ho : othN ms L i n j
            · rw [ho] at htw
              have HF2 := Lib.hid (show ∀ x, x < j + 1 → cb (t + 1) x m = true → othN ms L i n x = false from fun x hx h => by
                rcases Nat.lt_or_ge x j with h3 | h3
                · exact hF.out x h3 h
                · obtain rfl : x = j := by omega
                  exact ho)
              clear h42 hc ho
              generalize ownersL L j ms = oj at *
              have hl1 : decide ((1 : Int) < ((ints oj).length : Int)) = false := by rw [ints_length]; simp at htw ⊢; omega
              clear htw
              go_wp2_with fail
              refine (HH.out _).mono ?_
              rintro e w' ⟨rfl, rfl⟩
              go_wp2_with fail
              refine (HO.out _ (E0.out.trans hE.out)).mono ?_
              rintro e w5 ⟨u5, rfl, hu5, hb⟩
              have HY := Lib.hid (hE.out.trans hb); clear hb
              obtain ⟨hz5, a5, cap5, rfl⟩ := hu5.shape
              clear hu5
              go_wp2
              go_roundw
              case rel => exact ⟨j + 1, by omega, by go_num, HY.out, HF2.out⟩
              case measure => simp [RowKit.intOf]; omega
            · rw [ho] at htw
              clear h42 hc ho
              generalize ownersL L j ms = oj at *
              have hl1 : decide ((1 : Int) < ((ints oj).length : Int)) = true := by rw [ints_length]; simp at htw ⊢; omega
              clear htw
              go_wp2_with fail
              refine (HH.out _).mono ?_
              rintro e w' ⟨rfl, rfl⟩
              go_wp2_with fail
              refine (HO.out _ (E0.out.trans hE.out)).mono ?_
              rintro e w5 ⟨u5, rfl, hu5, hb⟩
              obtain ⟨g1, g2, g3⟩ := OffAt.ext ⟨g1, g2, g3⟩ hb
              have HY := Lib.hid (hE.out.trans hb); clear hb
              obtain ⟨hz5, a5, cap5, rfl⟩ := hu5.shape
              clear hu5
              go_wp2_with fail
              refine (HP.out _ (E0.out.trans HY.out)).mono ?_
              rintro e w6 ⟨u6, rfl, hu6, hb⟩
              replace HY := Lib.hid (HY.out.trans hb); clear hb
              obtain ⟨hz6, a6, cap6, rfl⟩ := hu6.shape
              clear hu6
              go_wp2_with fail
              refine (works18 _).mono ?_
              rintro e w7 ⟨rfl, hb⟩
              replace HY := Lib.hid (HY.out.trans hb); clear hb
              go_wp2
              go_ret
              exact ⟨rfl, E0.out.trans HY.out⟩
        · exfalso
          obtain ⟨x, h1, h2, h3⟩ := HMORE.out HLT.out
          have := hF.out x (by omega) h2
          rw [h3] at this; cases this
end Go.Proofs.Ytlgdnbpboonhdaa
namespace Go.Proofs.Ytlgdnbpboonhdaa
open Go.RowKit Go.Shelf Go.Maps
set_option linter.unusedVariables false
attribute [local go_sem] Oper.semAt_some
set_option maxRecDepth 100000 in
set_option maxHeartbeats 4000000 in
theorem told11 (S L y x : Int) (a : Option Addr) (cap : Nat) (xs : List Int) (hy : 0 ≤ y ∧ y ≤ 255) (hx : 0 ≤ x ∧ x ≤ 65535) (w : World) (hlen : xs.length ≤ cap ∧ cap ≤ 9223372036854775807) (hr : xs.length ≤ 5000 → Reads w (.slice a xs.length cap) xs) :
    Calls Try.prog 11 #[.agg #[.int .i64 S, .int .i64 L, .slice a xs.length cap], .int .u8 y, .int .u16 x] w fun e w' => e = .returned (.bool true) ∧ Ext w w' := by
  obtain ⟨x, rfl⟩ := Int.eq_ofNat_of_zero_le hx.1
  obtain ⟨y, rfl⟩ := Int.eq_ofNat_of_zero_le hy.1
  have E0 := Lib.hid ((Ext.refl w).alloc (.cells #[.int .i64 S, .int .i64 L, .slice a xs.length cap] 24))
  rcases fine_cases S L a cap xs w hlen hr with hf | ⟨S', L', ms, rfl, rfl, rfl, hv, hR, hf⟩
  · skip
    have HF := Lib.hid (hf _ E0.out)
    clear hf hr
    go_enter Try.func11, Try.ntmps11
    go_wp2_with fail
    refine HF.out.mono ?_
    rintro e w1 ⟨rfl, hb⟩
    have HE := Lib.hid (E0.out.trans hb); clear hb
    go_wp2_with fail
    refine (works18 _).mono ?_
    rintro e w2 ⟨rfl, hb⟩
    replace HE := Lib.hid (HE.out.trans hb); clear hb
    go_wp2
    go_ret
    exact ⟨rfl, HE.out⟩
  · cases ms with
    | nil =>
      clear hR
      have hf := hf _ E0.out
      have HF := Lib.hid hf
      have P0 := Lib.hid (OffAt.new w (.int .i64 (S' : Int)) (.int .i64 (L' : Int)) (.slice a (ints []).length cap) 24)
      clear hf
      rw [show (ints []).length = 0 from rfl] at HF P0 E0 ⊢
      go_enter Try.func11, Try.ntmps11
      go_wp2_with fail
      refine HF.out.mono ?_
      rintro e w1 ⟨rfl, hb⟩
      obtain ⟨g1, g2, g3⟩ := P0.out.ext hb
      have HE := Lib.hid (E0.out.trans hb); clear hb
      go_wp2_with fail
      refine (works18 _).mono ?_
      rintro e w2 ⟨rfl, hb⟩
      replace HE := Lib.hid (HE.out.trans hb); clear hb
      go_wp2
      go_ret
      exact ⟨rfl, HE.out⟩
    | cons m ms => exact told11_ok S' L' a cap (m :: ms) x y (by omega) (by omega) w hv hR hf (by simp)
end Go.Proofs.Ytlgdnbpboonhdaa
