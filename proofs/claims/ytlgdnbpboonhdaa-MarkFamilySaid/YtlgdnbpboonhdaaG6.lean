/- The reference's CheckFamily: what it answers. -/
import Derived.Test.YtlgdnbpboonhdaaG5
import Derived.Test.YtlgdnbpboonhdaaE9
import Derived.Test.YtlgdnbpboonhdaaO2
namespace Go.Proofs.Ytlgdnbpboonhdaa
open Go.RowKit Go.Shelf Go.Maps
set_option linter.unusedVariables false
attribute [local go_sem] Oper.semAt_some
theorem ints_nats (l : List Nat) : (ints l).map Int.toNat = l := by
  induction l with
  | nil => rfl
  | cons a l ih => simp only [ints, List.map_cons] at ih ⊢; rw [Int.toNat_natCast, ih]
theorem cf16 {ms : List Nat} {L : Nat} {qs : List Nat} {fam : List Int} (h : (inR 0 ((qs.length : Int) - 1) fam && inc fam) = false) : checkFam ms L qs fam = 16 := by
  unfold checkFam; rw [h]; rfl
theorem cf17 {S L : Nat} {ms qs l : List Nat} (hv : Valid S L ms) (hq : Valid S L qs) (hl : l.Pairwise (· < ·)) (h : (inR 0 ((qs.length : Int) - 1) (ints l) && inc (ints l)) = true) (hn : ¬ FamOK ms L qs l) : checkFam ms L qs (ints l) = 17 := by
  unfold checkFam
  rw [if_pos h, ints_nats, if_neg (fun hc => hn ((famB_iff hv hq l hl).1 hc))]
theorem cf0 {S L : Nat} {ms qs l : List Nat} (hv : Valid S L ms) (hq : Valid S L qs) (h : (inR 0 ((qs.length : Int) - 1) (ints l) && inc (ints l)) = true) (hn : FamOK ms L qs l) : checkFam ms L qs (ints l) = 0 := by
  unfold checkFam
  rw [if_pos h, ints_nats, if_pos ((famB_iff hv hq l hn.1).2 hn)]
theorem ask_ok {S L : Nat} {ms qs : List Nat} (hv : Valid S L ms) (hq : Valid S L qs) : askC (S : Int) (L : Int) (ints ms) (ints qs) = 0 := by
  unfold askC
  rw [if_neg (by rw [chk_ok hv]; simp), if_neg (by rw [ints_length]; have := hq.2.2.2.1; omega), if_pos]
  unfold inR
  rw [List.all_eq_true]
  intro x hx
  unfold ints at hx
  rw [List.mem_map] at hx
  obtain ⟨m, hm, rfl⟩ := hx
  have := hq.2.2.2.2 m hm
  rw [Bool.and_eq_true, decide_eq_true_iff, decide_eq_true_iff]
  simp only [Int.toNat_natCast]
  omega
set_option maxRecDepth 100000 in
theorem checkFam40_err (S L : Int) (xs ys fam : List Int) (v u t : Value) (w : World) (hr : Reads w v xs) (hu : Reads w u ys) (ht : Reads w t fam) (hc : askC S L xs ys ≠ 0) :
    Calls Try.prog 40 #[.agg #[.int .i64 S, .int .i64 L, v], u, t] w fun e w' => e = .returned (.int .i64 (askC S L xs ys)) ∧ Ext w w' := by
  obtain ⟨hl, a, cap, rfl⟩ := hr.shape
  have E0 := Lib.hid ((Ext.refl w).alloc (.cells #[.int .i64 S, .int .i64 L, .slice a xs.length cap] 24))
  have P0 := Lib.hid (OffAt.new w (.int .i64 S) (.int .i64 L) (.slice a xs.length cap) 24)
  have HR := Lib.hid hr; have HU := Lib.hid hu; clear hr hu ht
  obtain ⟨c, hc'⟩ : ∃ c, c = askC S L xs ys := ⟨_, rfl⟩
  rw [← hc'] at hc ⊢
  have HC := Lib.hid hc'; clear hc'
  have hd : (c != 0) = true := by simpa using hc
  clear hc
  go_enter Try.func40, Try.ntmps40
  go_wp2_with fail
  refine (asked81 _ _ xs ys _ _ _ (HR.out.ext E0.out) (HU.out.ext E0.out)).mono ?_
  rintro e w1 ⟨rfl, hb⟩
  obtain ⟨g1, g2, g3⟩ := P0.out.ext hb
  have HB := Lib.hid (E0.out.trans hb); clear hb
  rw [← HC.out]
  go_wp2_with fail
  refine (asked81 _ _ xs ys _ _ _ (HR.out.ext HB.out) (HU.out.ext HB.out)).mono ?_
  rintro e w2 ⟨rfl, hb⟩
  replace HB := Lib.hid (HB.out.trans hb); clear hb
  rw [← HC.out]
  go_wp2
  go_ret
  exact ⟨rfl, HB.out⟩
set_option maxRecDepth 100000 in
set_option maxHeartbeats 4000000 in
theorem checkFam40_ok (S L : Nat) (ms qs : List Nat) (fam : List Int) (v u t : Value) (w : World) (hv : Valid S L ms) (hr : Reads w v (ints ms)) (hu : Reads w u (ints qs)) (hq : Valid S L qs) (ht : Reads w t fam) :
    Calls Try.prog 40 #[.agg #[.int .i64 (S : Int), .int .i64 (L : Int), v], u, t] w fun e w' => e = .returned (.int .i64 (checkFam ms L qs fam)) ∧ Ext w w' := by
  obtain ⟨hl, a, cap, rfl⟩ := hr.shape
  obtain ⟨hl2, a2, cap2, rfl⟩ := hu.shape
  obtain ⟨hl3, a3, cap3, rfl⟩ := ht.shape
  rw [ints_length] at hr hu hl hl2
  rw [ints_length, ints_length]
  have E0 := Lib.hid ((Ext.refl w).alloc (.cells #[.int .i64 (S : Int), .int .i64 (L : Int), .slice a ms.length cap] 24))
  have P0 := Lib.hid (OffAt.new w (.int .i64 (S : Int)) (.int .i64 (L : Int)) (.slice a ms.length cap) 24)
  have HC := Lib.hid (ask_ok hv hq)
  have H81 := Lib.hid (fun W (h : Ext w W) => asked81 (S : Int) (L : Int) (ints ms) (ints qs) _ _ W (hr.ext h) (hu.ext h))
  have H78 := Lib.hid (fun (q : Nat) (h1 : 1 ≤ q) (h2 : q ≤ full S) W (h : Ext w W) => isFree78 S L q ms _ W hv (hr.ext h) h1 h2)
  have HV := Lib.hid hv; have HQ := Lib.hid hq; have HU := Lib.hid hu; have HT := Lib.hid ht
  obtain ⟨c, hc⟩ : ∃ c, c = checkFam ms L qs fam := ⟨_, rfl⟩
  rw [← hc]
  have HCF := Lib.hid hc
  obtain ⟨n0, hn0⟩ : ∃ n0, n0 = ms.length := ⟨_, rfl⟩
  obtain ⟨n, hn⟩ : ∃ n, n = qs.length := ⟨_, rfl⟩
  obtain ⟨ln, hln⟩ : ∃ ln, ln = fam.length := ⟨_, rfl⟩
  have HN0 := Lib.hid hn0; have HN := Lib.hid hn; have HLN := Lib.hid hln
  rw [← hn0] at E0 P0 H81 H78 ⊢
  rw [← hn] at HU H81 hl2 ⊢
  rw [← hln] at HT hl3 ⊢
  clear hv hr hu hq ht hc hn0 hn hln hl
  have HX0 := Lib.hid (Ext.refl (w.alloc (.cells #[.int .i64 (S : Int), .int .i64 (L : Int), .slice a n0 cap] 24)))
  go_enter Try.func40, Try.ntmps40
  go_wp2_with fail
  refine (H81.out _ E0.out).mono ?_
  rintro e w1 ⟨rfl, hb⟩
  have HX := Lib.hid (HX0.out.trans hb); clear hb
  rw [HC.out]
  go_wp2
  go_loopw [7] (fun x wr => ∃ k : Nat, k ≤ ln ∧ x = .int .i64 (k : Int) ∧ Hid (Ext w1 wr) ∧ Hid (ixTo n fam k)) (fun x wr => ln - (RowKit.intOf x).toNat)
  case atStart => exact ⟨0, Nat.zero_le _, rfl, Ext.refl _, (fun j x hj => by omega : ixTo n fam 0)⟩
  case round =>
    obtain ⟨k, hk, rfl, hE, hI⟩ := hrel
    by_cases hlt : k < ln
    · obtain ⟨x, hx⟩ := get_some (show k < fam.length by rw [← HLN.out]; exact hlt)
      obtain ⟨b1, off1, x', hbo, hx', c0⟩ := (HT.out.ext (E0.out.trans (HX.out.trans hE.out))).at (show k < fam.length by rw [← HLN.out]; exact hlt)
      subst hbo
      rw [hx] at hx'; cases hx'
      have hka : (0 : Int) ≤ (k : Int) := by omega
      have hkb : (k : Int) < (ln : Int) := by omega
      have HBAD := Lib.hid (fun (h : ¬ ((0 ≤ x ∧ x < n) ∧ ∀ y, 0 < k → fam[k - 1]? = some y → y < x)) => show c = 16 from by rw [HCF.out, cf16 (by rw [← HN.out]; exact ixTo_not hx h)])
      have HGO := Lib.hid (fun h1 h2 => ixTo_succ hI.out hx h1 h2)
      by_cases hx0 : x < 0
      · have hd1 : decide (x < 0) = true := by simpa using hx0
        have HB := Lib.hid (HBAD.out (fun h => by omega))
        clear hx
        go_wp2
        go_quiet (fail)
        go_wp2
        go_ret
        exact ⟨by rw [HB.out]; rfl, E0.out.trans (HX.out.trans (hE.out.drewN _ : Ext _ _))⟩
      · have hd1 : decide (x < 0) = false := by simpa using hx0
        by_cases hxn : x < (n : Int)
        · by_cases hk0 : k = 0
          · have HG := Lib.hid (HGO.out ⟨by omega, hxn⟩ (fun y h => by omega))
            have hd2 : decide (x < (n : Int)) = true := by simpa using hxn
            have hz1 : decide ((0 : Int) < (k : Int)) = false := decide_eq_false (by omega)
            have hz2 : ¬ (0 : Int) < (k : Int) := by omega
            have hz3 : ¬ 0 < k := by omega
            have hz4 : decide ((n : Int) ≤ x) = false := decide_eq_false (by omega)
            have hz5 : ¬ (n : Int) ≤ x := by omega
            clear hx hk0
            go_wp2
            go_quiet (fail)
            go_wp2
            go_roundw
            case rel => exact ⟨k + 1, by omega, by go_num, (hE.out.drewN _ : Ext _ _), HG.out⟩
            case measure => simp [RowKit.intOf]; omega
          · obtain ⟨k', rfl⟩ : ∃ k', k = k' + 1 := ⟨k - 1, by omega⟩
            obtain ⟨y, hy⟩ := get_some (show k' < fam.length by rw [← HLN.out]; omega)
            obtain ⟨b3, off3, y', hbo, hy', c1⟩ := (HT.out.ext (E0.out.trans (HX.out.trans hE.out))).at (show k' < fam.length by rw [← HLN.out]; omega)
            cases hbo
            rw [hy] at hy'; cases hy'
            have hka' : (0 : Int) ≤ (k' : Int) := by omega
            have hkb' : (k' : Int) < (ln : Int) := by omega
            have hkc : (k' : Int) + 1 < (ln : Int) := by omega
            have hkd : (0 : Int) ≤ (k' : Int) + 1 := by omega
            have hjw : IntKind.i64.wrap (k' : Int) = (k' : Int) := wrapi64 _ (by omega)
            have hje : decide ((0 : Int) < (k' : Int) + 1) = true := decide_eq_true (by omega)
            have hd2 : decide (x < (n : Int)) = true := by simpa using hxn
            by_cases hyx : y < x
            · have HG := Lib.hid (HGO.out ⟨by omega, hxn⟩ (fun z _ hz => by rw [Nat.add_sub_cancel, hy] at hz; cases hz; exact hyx))
              have hd3 : decide (y < x) = true := by simpa using hyx
              clear hx hy hk0
              go_wp2
              go_quiet (fail)
              go_wp2
              go_roundw
              case rel => exact ⟨k' + 1 + 1, by omega, by go_num, (hE.out.drewN _ : Ext _ _), HG.out⟩
              case measure => simp [RowKit.intOf]; omega
            · have HB := Lib.hid (HBAD.out (fun h => hyx (h.2 y (by omega) (by rw [Nat.add_sub_cancel]; exact hy))))
              have hd3 : decide (y < x) = false := by simpa using hyx
              clear hx hy hk0
              go_wp2
              go_quiet (fail)
              go_wp2
              go_ret
              exact ⟨by rw [HB.out]; rfl, E0.out.trans (HX.out.trans (hE.out.drewN _ : Ext _ _))⟩
        · have hd2 : decide (x < (n : Int)) = false := by simpa using hxn
          have HB := Lib.hid (HBAD.out (fun h => hxn h.1.2))
          clear hx
          go_wp2
          go_quiet (fail)
          go_wp2
          go_ret
          exact ⟨by rw [HB.out]; rfl, E0.out.trans (HX.out.trans (hE.out.drewN _ : Ext _ _))⟩
    · have hje : ln = k := by omega
      subst hje
      have hI2 := hI.out
      rw [HLN.out] at hI2
      have hgood := ixTo_ok.1 hI2
      rw [HN.out] at hgood
      obtain ⟨l, hfl, hsort, hln⟩ := ixTo_nats hI2
      rw [HN.out] at hln
      have hT := HT.out
      have hC := HCF.out
      have hL := HLN.out
      rw [hfl] at hT hC hgood hL
      rw [ints_length] at hL
      have h0 : FamOK ms L qs l → c = 0 := fun h => by rw [hC, cf0 HV.out HQ.out hgood h]
      have h17 : ¬ FamOK ms L qs l → c = 17 := fun h => by rw [hC, cf17 HV.out HQ.out hsort hgood h]
      have H0 := Lib.hid h0; have H17 := Lib.hid h17; have HT2 := Lib.hid hT; have HL2 := Lib.hid hL; have HS := Lib.hid hsort; have HIN := Lib.hid hln
      have hW1 := HX.out.trans hE.out
      have HX2 := Lib.hid hW1
      clear hI2 hgood hfl hsort hln hT hC hL h0 h17 hlt hW1
      go_wp2
      go_loopw [8] (fun x wr => ∃ k : Nat, k ≤ ln ∧ x = .int .i64 (k : Int) ∧ Hid (Ext (w.alloc (.cells #[.int .i64 (S : Int), .int .i64 (L : Int), .slice a n0 cap] 24)) wr) ∧ Hid (∀ j i, j < k → l[j]? = some i → freeTo L ms (mAt qs i) ms.length = true)) (fun x wr => ln - (RowKit.intOf x).toNat)
      case atStart => exact ⟨0, Nat.zero_le _, rfl, HX2.out, (fun j i hj => by omega : ∀ j i, j < 0 → l[j]? = some i → freeTo L ms (mAt qs i) ms.length = true)⟩
      case round =>
        rename_i wr
        obtain ⟨k, hk, rfl, hE, hI⟩ := hrel
        obtain ⟨g1, g2, g3⟩ := P0.out.ext hE.out
        by_cases hlt : k < ln
        · obtain ⟨i, hi⟩ := get_some (show k < l.length by rw [← HL2.out]; exact hlt)
          have hin : i < n := by rw [HN.out]; exact HIN.out i (List.mem_of_getElem? hi)
          obtain ⟨q, hq⟩ := get_some (show i < qs.length by rw [← HN.out]; exact hin)
          obtain ⟨b1, off1, hbo, -, c0⟩ := (HT2.out.ext (E0.out.trans hE.out)).atN hi
          subst hbo
          obtain ⟨b2, off2, hbo, -, c1⟩ := (HU.out.ext (E0.out.trans hE.out)).atN hq
          subst hbo
          have hqb := HQ.out.2.2.2.2 q (List.mem_of_getElem? hq)
          have hf78 := fun W (h : Ext wr W) => H78.out q hqb.1 hqb.2 W (E0.out.trans (hE.out.trans h))
          have hka : (0 : Int) ≤ (k : Int) := by omega
          have hkb : (k : Int) < (ln : Int) := by omega
          have hia : (0 : Int) ≤ (i : Int) := by omega
          have hib : (i : Int) < (n : Int) := by omega
          have hmq := mAt_of hq
          cases hfr : freeTo (L : Int) ms q n0
          · rw [hfr] at hf78
            have HF78 := Lib.hid hf78
            have HB := Lib.hid (H17.out (fun h => by have := (h.2.1 i (List.mem_of_getElem? hi)).2; rw [hmq, ← HN0.out, hfr] at this; cases this))
            clear hf78 hi hq hqb hmq hfr
            go_wp2
            have KP : ∀ X X' : World, (X.cell? ⟨w.heap.size, 0, none⟩ = some (.int .i64 (S : Int)) ∧ X.cell? ⟨w.heap.size, 1, none⟩ = some (.int .i64 (L : Int)) ∧ X.cell? ⟨w.heap.size, 2, none⟩ = some (.slice a n0 cap) ∧ X.cell? ⟨b1, off1 + k, none⟩ = some (.int .i64 (i : Int)) ∧ X.cell? ⟨b2, off2 + i, none⟩ = some (.int .i64 (q : Int)) ∧ Hid (Ext wr X)) → Ext X X' → (X'.cell? ⟨w.heap.size, 0, none⟩ = some (.int .i64 (S : Int)) ∧ X'.cell? ⟨w.heap.size, 1, none⟩ = some (.int .i64 (L : Int)) ∧ X'.cell? ⟨w.heap.size, 2, none⟩ = some (.slice a n0 cap) ∧ X'.cell? ⟨b1, off1 + k, none⟩ = some (.int .i64 (i : Int)) ∧ X'.cell? ⟨b2, off2 + i, none⟩ = some (.int .i64 (q : Int)) ∧ Hid (Ext wr X')) :=
              fun X X' h hb => ⟨cell_ext hb h.1, cell_ext hb h.2.1, cell_ext hb h.2.2.1, cell_ext hb h.2.2.2.1, cell_ext hb h.2.2.2.2.1, Ext.trans h.2.2.2.2.2.out hb⟩
            have HKP := Lib.hid KP; clear KP
            go_region_held3 (fun X => X.cell? ⟨w.heap.size, 0, none⟩ = some (.int .i64 (S : Int)) ∧ X.cell? ⟨w.heap.size, 1, none⟩ = some (.int .i64 (L : Int)) ∧ X.cell? ⟨w.heap.size, 2, none⟩ = some (.slice a n0 cap) ∧ X.cell? ⟨b1, off1 + k, none⟩ = some (.int .i64 (i : Int)) ∧ X.cell? ⟨b2, off2 + i, none⟩ = some (.int .i64 (q : Int)) ∧ Hid (Ext wr X))
              (first | assumption | exact ⟨g1, g2, g3, c0, c1, Ext.drew (Ext.refl _)⟩ | exact HKP.out _ _ (by assumption) hb | fail)
              (first | (go_at_call 78; refine (HF78.out _ (of_and6 (by assumption))).mono ?_; rintro e w' ⟨rfl, hb⟩) | fail)
            all_goals
              rename_i hk2
              have HK := Lib.hid (hE.out.trans (of_and6 hk2))
              clear hk2 g1 g2 g3 c0 c1
              go_wp2
              go_ret
              exact ⟨by rw [HB.out]; rfl, E0.out.trans HK.out⟩
          · rw [hfr] at hf78
            have HF78 := Lib.hid hf78
            have HI2 := Lib.hid (show ∀ j z, j < k + 1 → l[j]? = some z → freeTo L ms (mAt qs z) ms.length = true from fun j z hj hz => by
              rcases Nat.lt_or_ge j k with h3 | h3
              · exact hI.out j z h3 hz
              · obtain rfl : j = k := by omega
                rw [hi] at hz; cases hz
                rw [hmq, ← HN0.out]; exact hfr)
            clear hf78 hi hq hqb hmq hfr
            go_wp2
            have KP : ∀ X X' : World, (X.cell? ⟨w.heap.size, 0, none⟩ = some (.int .i64 (S : Int)) ∧ X.cell? ⟨w.heap.size, 1, none⟩ = some (.int .i64 (L : Int)) ∧ X.cell? ⟨w.heap.size, 2, none⟩ = some (.slice a n0 cap) ∧ X.cell? ⟨b1, off1 + k, none⟩ = some (.int .i64 (i : Int)) ∧ X.cell? ⟨b2, off2 + i, none⟩ = some (.int .i64 (q : Int)) ∧ Hid (Ext wr X)) → Ext X X' → (X'.cell? ⟨w.heap.size, 0, none⟩ = some (.int .i64 (S : Int)) ∧ X'.cell? ⟨w.heap.size, 1, none⟩ = some (.int .i64 (L : Int)) ∧ X'.cell? ⟨w.heap.size, 2, none⟩ = some (.slice a n0 cap) ∧ X'.cell? ⟨b1, off1 + k, none⟩ = some (.int .i64 (i : Int)) ∧ X'.cell? ⟨b2, off2 + i, none⟩ = some (.int .i64 (q : Int)) ∧ Hid (Ext wr X')) :=
              fun X X' h hb => ⟨cell_ext hb h.1, cell_ext hb h.2.1, cell_ext hb h.2.2.1, cell_ext hb h.2.2.2.1, cell_ext hb h.2.2.2.2.1, Ext.trans h.2.2.2.2.2.out hb⟩
            have HKP := Lib.hid KP; clear KP
            go_region_held3 (fun X => X.cell? ⟨w.heap.size, 0, none⟩ = some (.int .i64 (S : Int)) ∧ X.cell? ⟨w.heap.size, 1, none⟩ = some (.int .i64 (L : Int)) ∧ X.cell? ⟨w.heap.size, 2, none⟩ = some (.slice a n0 cap) ∧ X.cell? ⟨b1, off1 + k, none⟩ = some (.int .i64 (i : Int)) ∧ X.cell? ⟨b2, off2 + i, none⟩ = some (.int .i64 (q : Int)) ∧ Hid (Ext wr X))
              (first | assumption | exact ⟨g1, g2, g3, c0, c1, Ext.drew (Ext.refl _)⟩ | exact HKP.out _ _ (by assumption) hb | fail)
              (first | (go_at_call 78; refine (HF78.out _ (of_and6 (by assumption))).mono ?_; rintro e w' ⟨rfl, hb⟩) | fail)
            all_goals
              rename_i hk2
              have HK := Lib.hid (hE.out.trans (of_and6 hk2))
              clear hk2 g1 g2 g3 c0 c1
              go_wp2
              go_roundw
              case rel => exact ⟨k + 1, by omega, by go_num, HK.out, HI2.out⟩
              case measure => simp [RowKit.intOf]; omega
        · have hje : ln = k := by omega
          subst hje
          have hfree : ∀ i ∈ l, i < qs.length ∧ freeTo L ms (mAt qs i) ms.length = true := by
            intro i hi
            obtain ⟨j, hj⟩ := List.getElem?_of_mem hi
            exact ⟨HIN.out i hi, hI.out j i (by rw [HL2.out]; exact (List.getElem?_eq_some_iff.1 hj).1) hj⟩
          have hu52 := HU.out
          rw [HN.out] at hu52
          have hu53 := HT2.out
          rw [HL2.out] at hu53
          have h52 := fun W (h : Ext wr W) => picked52 qs l _ _ W (HU.out.ext (E0.out.trans (hE.out.trans h))) (HT2.out.ext (E0.out.trans (hE.out.trans h))) HIN.out
          have H52 := Lib.hid h52
          have h68 := fun (u' : Value) W (h : Reads W u' (ints (l.map (mAt qs)))) => areApart68 (l.map (mAt qs)) (L : Int) u' W h (fun m hm => by
            rw [List.mem_map] at hm
            obtain ⟨i, -, rfl⟩ := hm
            exact mAt_lt2 HQ.out i)
          have hpw : apL (L : Int) (l.map (mAt qs)) = none ↔ l.Pairwise (fun a b => cl L (mAt qs a) (mAt qs b) = false) := by
            rw [apL_none, List.pairwise_map]
          have hfam : FamOK ms L qs l ↔ apL (L : Int) (l.map (mAt qs)) = none := by
            rw [hpw]
            exact ⟨fun h => h.2.2, fun h => ⟨HS.out, hfree, h⟩⟩
          cases hap : apL (L : Int) (l.map (mAt qs)) with
          | none =>
            rw [hap] at h68
            have H68 := Lib.hid h68
            have HB := Lib.hid (H0.out (hfam.2 hap))
            clear h52 h68 hpw hfam hap hfree hlt hu52 hu53
            go_wp2
            have KP : ∀ X X' : World, (X.cell? ⟨w.heap.size, 0, none⟩ = some (.int .i64 (S : Int)) ∧ X.cell? ⟨w.heap.size, 1, none⟩ = some (.int .i64 (L : Int)) ∧ X.cell? ⟨w.heap.size, 2, none⟩ = some (.slice a n0 cap) ∧ Hid (Ext wr X)) → Ext X X' → (X'.cell? ⟨w.heap.size, 0, none⟩ = some (.int .i64 (S : Int)) ∧ X'.cell? ⟨w.heap.size, 1, none⟩ = some (.int .i64 (L : Int)) ∧ X'.cell? ⟨w.heap.size, 2, none⟩ = some (.slice a n0 cap) ∧ Hid (Ext wr X')) :=
              fun X X' h hb => ⟨cell_ext hb h.1, cell_ext hb h.2.1, cell_ext hb h.2.2.1, Ext.trans h.2.2.2.out hb⟩
            have HKP := Lib.hid KP; clear KP
            go_region_held3 (fun X => X.cell? ⟨w.heap.size, 0, none⟩ = some (.int .i64 (S : Int)) ∧ X.cell? ⟨w.heap.size, 1, none⟩ = some (.int .i64 (L : Int)) ∧ X.cell? ⟨w.heap.size, 2, none⟩ = some (.slice a n0 cap) ∧ Hid (Ext wr X))
              (first | assumption | exact ⟨g1, g2, g3, Ext.drew (Ext.refl _)⟩ | exact HKP.out _ _ (by assumption) hb | fail)
              (first | (go_at_call 52; refine (H52.out _ (of_and4 (by assumption))).mono ?_; rintro e w' ⟨u', rfl, hu', hb⟩) | (go_at_call 68; refine (H68.out _ _ (by assumption)).mono ?_; rintro e w' ⟨rfl, hb⟩) | fail)
            all_goals
              rename_i hk2
              have HK := Lib.hid (hE.out.trans (of_and4 hk2))
              clear hk2 g1 g2 g3
              simp only [apV]
              go_wp2
              go_ret
              exact ⟨by rw [HB.out]; rfl, E0.out.trans HK.out⟩
          | some p =>
            rw [hap] at h68
            have H68 := Lib.hid h68
            have HB := Lib.hid (H17.out (fun h => by rw [hfam.1 h] at hap; cases hap))
            have hp0 : (0 : Int) ≤ (p.1 : Int) := by omega
            have hp1 : ¬ (p.1 : Int) < 0 := by omega
            clear h52 h68 hpw hfam hap hfree hlt hu52 hu53
            go_wp2
            have KP : ∀ X X' : World, (X.cell? ⟨w.heap.size, 0, none⟩ = some (.int .i64 (S : Int)) ∧ X.cell? ⟨w.heap.size, 1, none⟩ = some (.int .i64 (L : Int)) ∧ X.cell? ⟨w.heap.size, 2, none⟩ = some (.slice a n0 cap) ∧ Hid (Ext wr X)) → Ext X X' → (X'.cell? ⟨w.heap.size, 0, none⟩ = some (.int .i64 (S : Int)) ∧ X'.cell? ⟨w.heap.size, 1, none⟩ = some (.int .i64 (L : Int)) ∧ X'.cell? ⟨w.heap.size, 2, none⟩ = some (.slice a n0 cap) ∧ Hid (Ext wr X')) :=
              fun X X' h hb => ⟨cell_ext hb h.1, cell_ext hb h.2.1, cell_ext hb h.2.2.1, Ext.trans h.2.2.2.out hb⟩
            have HKP := Lib.hid KP; clear KP
            go_region_held3 (fun X => X.cell? ⟨w.heap.size, 0, none⟩ = some (.int .i64 (S : Int)) ∧ X.cell? ⟨w.heap.size, 1, none⟩ = some (.int .i64 (L : Int)) ∧ X.cell? ⟨w.heap.size, 2, none⟩ = some (.slice a n0 cap) ∧ Hid (Ext wr X))
              (first | assumption | exact ⟨g1, g2, g3, Ext.drew (Ext.refl _)⟩ | exact HKP.out _ _ (by assumption) hb | fail)
              (first | (go_at_call 52; refine (H52.out _ (of_and4 (by assumption))).mono ?_; rintro e w' ⟨u', rfl, hu', hb⟩) | (go_at_call 68; refine (H68.out _ _ (by assumption)).mono ?_; rintro e w' ⟨rfl, hb⟩) | fail)
            all_goals
              rename_i hk2
              have HK := Lib.hid (hE.out.trans (of_and4 hk2))
              clear hk2 g1 g2 g3
              simp only [apV]
              go_wp2
              go_ret
              exact ⟨by rw [HB.out]; rfl, E0.out.trans HK.out⟩
end Go.Proofs.Ytlgdnbpboonhdaa
