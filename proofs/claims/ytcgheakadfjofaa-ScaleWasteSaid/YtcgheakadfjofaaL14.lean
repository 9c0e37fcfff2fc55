/- ScaleWaste, by its contract. -/
import Derived.Test.YtcgheakadfjofaaQ1
import Derived.Test.YtcgheakadfjofaaH2
namespace Go.Proofs.Ytcgheakadfjofaa
open Go.RowKit
set_option linter.unusedVariables false
set_option linter.unusedSimpArgs false
attribute [local go_sem] Oper.semAt_some
def uI (F : Nat → Nat → Int) (a i j : Nat) : Bool := (List.range' (a + 1) (j - a)).any fun j => !(F i j == 0)
def uO (F : Nat → Nat → Int) (a m i : Nat) : Bool := (List.range i).any fun i => uI F a i m
theorem uI_self (F : Nat → Nat → Int) (a i : Nat) : uI F a i a = false := by simp [uI]
theorem uI_step (F : Nat → Nat → Int) {a i j : Nat} (h : a < j) : uI F a i j = (uI F a i (j - 1) || !(F i j == 0)) := by
  unfold uI
  rw [show j - a = (j - 1 - a) + 1 from by omega, List.range'_concat, List.any_append]
  simp
  rw [show a + 1 + (j - 1 - a) = j from by omega]
theorem uO_succ (F : Nat → Nat → Int) (a m i : Nat) : uO F a m (i + 1) = (uO F a m i || uI F a i m) := by simp [uO, List.range_succ]
theorem uO_none {F : Nat → Nat → Int} {a m : Nat} (h : uO F a m (a + 1) = false) (i j : Nat) (h1 : i ≤ a) (h2 : a < j) (h3 : j ≤ m) : F i j = 0 := by
  unfold uO at h
  rw [List.any_eq_false] at h
  have h4 := h i (List.mem_range.2 (by omega))
  unfold uI at h4
  rw [List.any_eq_true] at h4
  apply Classical.byContradiction
  intro hn
  exact h4 ⟨j, by rw [List.mem_range'_1]; omega, by simpa using hn⟩
theorem feetE_ok {th bd : List Int} {r : Rl} (h : bothE th bd r = 0) {i j : Nat} (hij : i < j) (hj : j ≤ th.length - 1) : feetE th bd r i j = (sF th bd r i j, if sF th bd r i j = 0 then 18 else 0) := by
  have h2 := vs_len h
  unfold feetE
  rw [if_neg (by simpa using h), if_neg (by rw [Bool.not_eq_false]; simp [lieB, inn]; omega)]
  show (if sF th bd r i j = 0 then ((0 : Int), (18 : Int)) else (sF th bd r i j, 0)) = _
  split
  · rename_i hz; rw [hz]
  · rfl
theorem count_same {th bd bd' : List Int} {r : Rl} (h : bothE th bd r = 0) (h' : bothE th bd' r = 0) (hs : ∀ i j, i < j → j ≤ th.length - 1 → sF th bd' r i j = sF th bd r i j) : countE th bd' r = countE th bd r := by
  have := cntV_congr (M := 1099511627777) (lt := allB) hs (Nat.zero_le _)
  unfold countE
  simp only [h, h', this]
set_option maxRecDepth 100000 in
set_option maxHeartbeats 8000000 in
theorem waste14 (a a' : Option Addr) (cap cap' : Nat) (th bd : List Int) (r : Rl) (ft : Nat) (w : World) (hlen : th.length ≤ cap ∧ cap ≤ 9223372036854775807) (hlen' : bd.length ≤ cap' ∧ cap' ≤ 9223372036854775807) (hr : th.length ≤ 5000 → Reads w (.slice a th.length cap) th) (hr' : bd.length ≤ 5000 → Reads w (.slice a' bd.length cap') bd) (hft : ft ≤ 255) :
    Calls Try.prog 14 #[.agg #[.slice a th.length cap, .slice a' bd.length cap'], r.val, .int .u8 (ft : Int)] w fun e w' => e = .returned (.bool true) ∧ Ext w w' := by
  obtain ⟨BF, hf1, hf2⟩ := fine40 a a' cap cap' th bd r w hlen hlen' hr hr'
  have C40 := Lib.hid hf1
  obtain ⟨n, hn⟩ : ∃ n, n = th.length := ⟨_, rfl⟩
  obtain ⟨n', hn'⟩ : ∃ n', n' = bd.length := ⟨_, rfl⟩
  rw [← hn] at hlen hr ⊢
  rw [← hn'] at hlen' hr' ⊢
  have E0 := Lib.hid (Ext.alloc (Ext.alloc (Ext.refl w) (.cells #[.slice a n cap, .slice a' n' cap'] 25)) (.cells #[.int .i64 r.lo, .int .i64 r.hi, .int .i64 r.st, .int .i64 r.tr, .int .i64 r.off, .int .i64 r.dv, .int .i64 r.tn] 27))
  have P0 := Lib.hid (SR.new w (.slice a n cap) (.slice a' n' cap') r)
  rw [← hn, ← hn'] at C40 hf2
  cases BF with
  | false =>
    clear hr hr' hf1 hf2 hn hn' 
    obtain ⟨⟨g1, g2⟩, r0, r1, r2, r3, r4, r5, r6⟩ := P0.out
    have HE := E0
    have HP := P0
    go_enter Try.func14, Try.ntmps14
    go_wp2_with fail
    refine (C40.out _ HE.out).mono ?_
    rintro e w1 ⟨rfl, hb⟩
    obtain ⟨⟨g1, g2⟩, r0, r1, r2, r3, r4, r5, r6⟩ := HP.out.ext hb
    have HE := Lib.hid (HE.out.trans hb)
    have HP := Lib.hid (HP.out.ext hb)
    clear hb
    go_wp2_with fail
    refine (works17 _).mono ?_
    rintro e w9 ⟨rfl, hb⟩
    have HE := Lib.hid (HE.out.trans hb); clear hb
    go_wp2
    go_ret
    exact ⟨rfl, HE.out⟩
  | true =>
    obtain ⟨hE, ht, hd⟩ := hf2 rfl
    have HD := Lib.hid hd; have HNB := Lib.hid hn'
    obtain ⟨q1, q2⟩ := vs_len hE
    obtain ⟨hvs, hvr⟩ := bothE_ok.1 hE
    obtain ⟨m, hm⟩ : ∃ m, n = m + 1 := ⟨n - 1, by omega⟩
    have hm2 : th.length - 1 = m := by omega
    obtain ⟨at_, hat⟩ : ∃ x : Nat, x = ft % m := ⟨_, rfl⟩
    have hatm : at_ < m := by rw [hat]; exact Nat.mod_lt _ (by omega)
    have hpp : (ft : Int) % (m : Int) = (at_ : Int) := by rw [hat]; omega
    have x18 : ∀ (i j : Nat) (W : World), Ext w W → i < j → j ≤ m → Calls Try.prog 18 #[.agg #[.slice a n cap, .slice a' n' cap'], .agg #[.int .i64 r.lo, .int .i64 r.hi, .int .i64 r.st, .int .i64 r.tr, .int .i64 r.off, .int .i64 r.dv, .int .i64 r.tn], .agg #[.int .i64 (i : Int), .int .i64 (j : Int)]] W fun e w' => e = .returned (.tuple #[.int .i64 (sF th bd r i j), .int .i64 (if sF th bd r i j = 0 then 18 else 0)]) ∧ Ext W w' := fun i j W h h1 h2 => by
      have := feet18 _ _ th bd r i j W (ht.ext h) (hd.ext h)
      rw [feetE_ok hE h1 (by omega)] at this
      exact this
    have C26 := Lib.hid (fun (W : World) (h : Ext w W) => best26v _ _ th bd r W (ht.ext h) (hd.ext h))
    have C32 := Lib.hid (fun (W : World) (h : Ext w W) => count32 _ _ th bd r W (ht.ext h) (hd.ext h))
    have C28 := Lib.hid (fun (W : World) (h : Ext w W) => cut28 _ _ th bd r W (ht.ext h) (hd.ext h))
    rw [hE] at C26 C28
    obtain ⟨bl, hbl⟩ : ∃ bl, bl = badL m fun i => hitB (decide (i = at_)) bd i := ⟨_, rfl⟩
    have hbE : bothE th bl r = 0 := by rw [hbl, ← hm2]; exact both_badL hE _
    have C26x := Lib.hid (fun (W : World) (v : Value) (h : Ext w W) (hv : Reads W v bl) => best26v _ _ th bl r W (ht.ext h) hv)
    have C32x := Lib.hid (fun (W : World) (v : Value) (h : Ext w W) (hv : Reads W v bl) => count32 _ _ th bl r W (ht.ext h) hv)
    rw [hbE] at C26x
    have hba : bestV th bl r ≤ bestV th bd r := by
      unfold bestV
      rw [if_pos hE, if_pos hbE, hbl, ← hm2]
      exact bst_badL hvs (fun i hi => hitB_iff.2 (.inr hi)) _
    obtain ⟨us, hus⟩ : ∃ us, us = uO (sF th bd r) at_ m (at_ + 1) := ⟨_, rfl⟩
    have hun : us = false → ∀ i j, i ≤ at_ → at_ < j → j ≤ m → sF th bd r i j = 0 := fun h => uO_none (by rw [← hus]; exact h)
    have hsame : us = false → bestV th bl r = bestV th bd r ∧ countE th bl r = countE th bd r := fun h => by
      have hs : ∀ i j, i < j → j ≤ th.length - 1 → sF th bl r i j = sF th bd r i j := fun i j h1 h2 => by
        rw [hbl]
        exact sF_waste hvs (n := m) (a := at_) hm2.symm hatm (fun i => by rw [hitB_iff, decide_eq_true_eq]) (hun h) h1 (by omega)
      refine ⟨?_, count_same hE hbE hs⟩
      unfold bestV
      rw [if_pos hE, if_pos hbE]
      exact bst_congr (fun i j h1 h2 => ⟨hs i j h1 h2, rfl⟩) (Nat.zero_le _)
    have hc5 : ∀ c, Cuts (sF th bd r) allB (th.length - 1) 0 c → c.length ≤ 60 := fun c h => by
      have := cuts_len c 0 h
      omega
    have hbl5 : bl.length ≤ 5000 := by rw [hbl]; exact Nat.le_trans (badL_len _ _) (by omega)
    unfold CutPost at C28
    rw [hm2] at C28 hc5
    generalize bestV th bd r = BA at *
    generalize bestV th bl r = BB at *
    generalize countE th bd r = ca at *
    generalize countE th bl r = cb at *
    generalize hF : sF th bd r = F at *
    obtain ⟨c1, c2⟩ := ca
    obtain ⟨d1, d2⟩ := cb
    dsimp only at C32 C32x
    have hba2 : decide (BB ≤ BA) = true := by simpa using hba
    have H18 := Lib.hid x18; have HUS := Lib.hid hus; have HUN := Lib.hid hun; have HSM := Lib.hid hsame; have HC5 := Lib.hid hc5; have HBL := Lib.hid hbl; have HBL5 := Lib.hid hbl5
    have hm1 : 1 ≤ m := by omega
    have hm60 : m ≤ 60 := by omega
    clear hr hr' hf1 hf2 hn hn' ht hd hE hvs hvr hm2 hat x18 hbl hbE hus hun hsame hc5 hF hbl5 q1 q2 hba
    subst hm
    have C43 := Lib.hid (fun (W : World) => long43 a (m + 1) cap (.slice a' n' cap') W (by omega))
    have hm0 : ((m : Int) == 0) = false := by simp; omega
    have hm01 : ¬ (m : Int) = 0 := by omega
    obtain ⟨⟨g1, g2⟩, r0, r1, r2, r3, r4, r5, r6⟩ := P0.out
    have HE := E0
    have HP := P0
    go_enter Try.func14, Try.ntmps14
    go_wp2_with fail
    refine (C40.out _ HE.out).mono ?_
    rintro e w1 ⟨rfl, hb⟩
    obtain ⟨⟨g1, g2⟩, r0, r1, r2, r3, r4, r5, r6⟩ := HP.out.ext hb
    have HE := Lib.hid (HE.out.trans hb)
    have HP := Lib.hid (HP.out.ext hb)
    clear hb
    go_wp2_with fail
    refine (C43.out _).mono ?_
    rintro e w2 ⟨rfl, hb⟩
    obtain ⟨⟨g1, g2⟩, r0, r1, r2, r3, r4, r5, r6⟩ := HP.out.ext hb
    have HE := Lib.hid (HE.out.trans hb)
    have HP := Lib.hid (HP.out.ext hb)
    clear hb
    clear g1 g2 r0 r1 r2 r3 r4 r5 r6
    obtain ⟨w1', hw1'⟩ : ∃ x, x = w2 := ⟨_, rfl⟩
    clear hw1' w1'
    have HE1 := HE
    go_wp2_with fail
    rw [hpp]
    clear hpp
    go_loopw [8, 9] (fun u s wr => ∃ i : Nat, i ≤ at_ + 1 ∧ s = .int .i64 (i : Int) ∧ u = .bool (uO F at_ m i) ∧ Hid (Ext w2 wr)) (fun u s wr => at_ + 2 - (intV s).toNat)
    case atStart => exact ⟨0, Nat.zero_le _, rfl, rfl, Lib.hid (Ext.refl _)⟩
    case round =>
      obtain ⟨i, hi, rfl, rfl, hX⟩ := hrel
      by_cases hlt : i ≤ at_
      · have hd1 : decide ((i : Int) ≤ (at_ : Int)) = true := by simp; omega
        have hw1 : IntKind.i64.wrap ((at_ : Int) + 1) = (at_ : Int) + 1 := wrapi64 _ (by omega) (by omega)
        obtain ⟨uo, huo⟩ : ∃ uo, uo = uO F at_ m i := ⟨_, rfl⟩
        rw [← huo]
        have HUO := Lib.hid huo
        clear huo
        go_wp2_with fail
        go_loopw [8, 10] (fun u s wr => ∃ j : Nat, at_ + 1 ≤ j ∧ j ≤ m + 1 ∧ s = .int .i64 (j : Int) ∧ u = .bool (uo || uI F at_ i (j - 1)) ∧ Hid (Ext w2 wr)) (fun u s wr => ((m : Int) + 2 - intV s).toNat)
        case atStart => exact ⟨at_ + 1, Nat.le_refl _, by omega, by go_num, by rw [Nat.add_sub_cancel, uI_self, Bool.or_false], hX⟩
        case round =>
          obtain ⟨j, hj1, hj2, rfl, rfl, hY⟩ := hrel
          obtain ⟨⟨g1, g2⟩, -⟩ := HP.out.ext hY.out
          obtain ⟨u, hu⟩ : ∃ u, u = (uo || uI F at_ i (j - 1)) := ⟨_, rfl⟩
          rw [← hu]
          have HU := Lib.hid hu
          clear hu
          go_wp2_with fail
          refine (C43.out _).mono ?_
          rintro e w4 ⟨rfl, hb⟩
          have HX4 := Lib.hid (hY.out.trans hb)
          clear hb g1 g2
          by_cases hlj : j ≤ m
          · have hd2 : decide (j ≤ m) = true := by simpa using hlj
            obtain ⟨⟨g1, g2⟩, r0, r1, r2, r3, r4, r5, r6⟩ := HP.out.ext HX4.out
            have x := H18.out i j
            have HST := Lib.hid (uI_step F (a := at_) (i := i) (j := j) (by omega))
            by_cases hz : F i j = 0
            · have hij := Lib.hid (fun (W : World) (h : Ext w W) => x W h (by omega) hlj)
              rw [if_pos hz] at hij
              have HN := Lib.hid (show (uo || uI F at_ i (j + 1 - 1)) = u by rw [Nat.add_sub_cancel, HST.out, hz, HU.out]; simp)
              clear x HST
              generalize F i j = fv at hij
              clear hz
              have HKP := Lib.hid (show ∀ X X' : World, (fun X : World => X.cell? ⟨w.heap.size, 0, none⟩ = some (.slice a (m + 1) cap) ∧ X.cell? ⟨w.heap.size, 1, none⟩ = some (.slice a' n' cap') ∧ X.cell? ⟨w.heap.size + 1, 0, none⟩ = some (.int .i64 r.lo) ∧ X.cell? ⟨w.heap.size + 1, 1, none⟩ = some (.int .i64 r.hi) ∧ X.cell? ⟨w.heap.size + 1, 2, none⟩ = some (.int .i64 r.st) ∧ X.cell? ⟨w.heap.size + 1, 3, none⟩ = some (.int .i64 r.tr) ∧ X.cell? ⟨w.heap.size + 1, 4, none⟩ = some (.int .i64 r.off) ∧ X.cell? ⟨w.heap.size + 1, 5, none⟩ = some (.int .i64 r.dv) ∧ X.cell? ⟨w.heap.size + 1, 6, none⟩ = some (.int .i64 r.tn) ∧ Hid (Ext w4 X)) X → Ext X X' → (fun X : World => X.cell? ⟨w.heap.size, 0, none⟩ = some (.slice a (m + 1) cap) ∧ X.cell? ⟨w.heap.size, 1, none⟩ = some (.slice a' n' cap') ∧ X.cell? ⟨w.heap.size + 1, 0, none⟩ = some (.int .i64 r.lo) ∧ X.cell? ⟨w.heap.size + 1, 1, none⟩ = some (.int .i64 r.hi) ∧ X.cell? ⟨w.heap.size + 1, 2, none⟩ = some (.int .i64 r.st) ∧ X.cell? ⟨w.heap.size + 1, 3, none⟩ = some (.int .i64 r.tr) ∧ X.cell? ⟨w.heap.size + 1, 4, none⟩ = some (.int .i64 r.off) ∧ X.cell? ⟨w.heap.size + 1, 5, none⟩ = some (.int .i64 r.dv) ∧ X.cell? ⟨w.heap.size + 1, 6, none⟩ = some (.int .i64 r.tn) ∧ Hid (Ext w4 X)) X' from fun X X' h hb => ⟨cell_ext hb h.1, cell_ext hb h.2.1, cell_ext hb h.2.2.1, cell_ext hb h.2.2.2.1, cell_ext hb h.2.2.2.2.1, cell_ext hb h.2.2.2.2.2.1, cell_ext hb h.2.2.2.2.2.2.1, cell_ext hb h.2.2.2.2.2.2.2.1, cell_ext hb h.2.2.2.2.2.2.2.2.1, Lib.hid (Ext.trans h.2.2.2.2.2.2.2.2.2.out hb)⟩)
              go_wp2_with fail
              refine wp_region_order (fun X : World => X.cell? ⟨w.heap.size, 0, none⟩ = some (.slice a (m + 1) cap) ∧ X.cell? ⟨w.heap.size, 1, none⟩ = some (.slice a' n' cap') ∧ X.cell? ⟨w.heap.size + 1, 0, none⟩ = some (.int .i64 r.lo) ∧ X.cell? ⟨w.heap.size + 1, 1, none⟩ = some (.int .i64 r.hi) ∧ X.cell? ⟨w.heap.size + 1, 2, none⟩ = some (.int .i64 r.st) ∧ X.cell? ⟨w.heap.size + 1, 3, none⟩ = some (.int .i64 r.tr) ∧ X.cell? ⟨w.heap.size + 1, 4, none⟩ = some (.int .i64 r.off) ∧ X.cell? ⟨w.heap.size + 1, 5, none⟩ = some (.int .i64 r.dv) ∧ X.cell? ⟨w.heap.size + 1, 6, none⟩ = some (.int .i64 r.tn) ∧ Hid (Ext w4 X)) [0, 1, 2, 3, 4, 5, 6, 7, 8, 9, 10] (by kernel_rfl) (by kernel_rfl) (by exact ⟨g1, g2, r0, r1, r2, r3, r4, r5, r6, Lib.hid (Ext.drew (Ext.refl _))⟩) (fun hHeld => ?_)
              simp only [opsIn, List.filterMap_cons, List.filterMap_nil, List.getElem?_toArray, List.getElem?_cons_succ, List.getElem?_cons_zero]
              refine' text_chunk 4 (by kernel_rfl) hHeld ?ck1 ?cr1
              case ck1 =>
                intro W hSw
                have hSW := hSw
                try dsimp only at hSW
                clear hSw
                simp only [List.take_succ_cons, List.take_zero, List.drop_succ_cons, List.drop_zero]
                repeat (go_big_quiet_step (fail))
                exact wpQuiet_nil rfl
              simp only [List.take_succ_cons, List.take_zero, List.drop_succ_cons, List.drop_zero]
              refine text_call (by rfl) (by rfl) (fun K hK => ?_)
              go_simp
              (go_at_call 46; refine (log46 _ _ _).mono ?_; rintro e w5 ⟨rfl, hb⟩)
              all_goals (try (go_wp2_with fail))
              refine hK.out _ _ (by exact HKP.out _ _ hHeld hb) (fun hHeld => ?_)
              clear hK K
              try simp only [Act.put, List.setIfInBounds_toArray, List.set_cons_zero, List.set_cons_succ]
              refine text_call (by rfl) (by rfl) (fun K hK => ?_)
              go_simp
              (go_at_call 18; refine (hij.out _ (HE1.out.trans (HX4.out.trans (of_and10 hHeld)))).mono ?_; rintro e w6 ⟨rfl, hb⟩)
              all_goals (try (go_wp2_with fail))
              refine hK.out _ _ (by exact HKP.out _ _ hHeld hb) (fun hHeld => ?_)
              clear hK K
              try simp only [Act.put, List.setIfInBounds_toArray, List.set_cons_zero, List.set_cons_succ]
              refine' text_chunk 5 (by kernel_rfl) hHeld ?ck2 ?cr2
              case ck2 =>
                intro W hSw
                have hSW := hSw
                try dsimp only at hSW
                clear hSw
                simp only [List.take_succ_cons, List.take_zero, List.drop_succ_cons, List.drop_zero]
                repeat (go_big_quiet_step (fail))
                exact wpQuiet_nil rfl
              simp only [List.take_succ_cons, List.take_zero, List.drop_succ_cons, List.drop_zero]
              refine text_done ?_
              have HX5 := Lib.hid (HX4.out.trans (of_and10 hHeld))
              clear hHeld g1 g2 r0 r1 r2 r3 r4 r5 r6
              cases u
              · go_wp2_with fail
                go_roundw
                case rel => exact ⟨j + 1, by omega, by omega, by go_num, by rw [HN.out], HX5⟩
                case measure => simp [intV]; omega
              · go_wp2_with fail
                go_roundw
                case rel => exact ⟨j + 1, by omega, by omega, by go_num, by rw [HN.out], HX5⟩
                case measure => simp [intV]; omega
            · have hij := Lib.hid (fun (W : World) (h : Ext w W) => x W h (by omega) hlj)
              rw [if_neg hz] at hij
              have HN := Lib.hid (show (uo || uI F at_ i (j + 1 - 1)) = true by rw [Nat.add_sub_cancel, HST.out, show (F i j == 0) = false by simpa using hz]; simp)
              clear x HST
              generalize F i j = fv at hij
              clear hz
              have HKP := Lib.hid (show ∀ X X' : World, (fun X : World => X.cell? ⟨w.heap.size, 0, none⟩ = some (.slice a (m + 1) cap) ∧ X.cell? ⟨w.heap.size, 1, none⟩ = some (.slice a' n' cap') ∧ X.cell? ⟨w.heap.size + 1, 0, none⟩ = some (.int .i64 r.lo) ∧ X.cell? ⟨w.heap.size + 1, 1, none⟩ = some (.int .i64 r.hi) ∧ X.cell? ⟨w.heap.size + 1, 2, none⟩ = some (.int .i64 r.st) ∧ X.cell? ⟨w.heap.size + 1, 3, none⟩ = some (.int .i64 r.tr) ∧ X.cell? ⟨w.heap.size + 1, 4, none⟩ = some (.int .i64 r.off) ∧ X.cell? ⟨w.heap.size + 1, 5, none⟩ = some (.int .i64 r.dv) ∧ X.cell? ⟨w.heap.size + 1, 6, none⟩ = some (.int .i64 r.tn) ∧ Hid (Ext w4 X)) X → Ext X X' → (fun X : World => X.cell? ⟨w.heap.size, 0, none⟩ = some (.slice a (m + 1) cap) ∧ X.cell? ⟨w.heap.size, 1, none⟩ = some (.slice a' n' cap') ∧ X.cell? ⟨w.heap.size + 1, 0, none⟩ = some (.int .i64 r.lo) ∧ X.cell? ⟨w.heap.size + 1, 1, none⟩ = some (.int .i64 r.hi) ∧ X.cell? ⟨w.heap.size + 1, 2, none⟩ = some (.int .i64 r.st) ∧ X.cell? ⟨w.heap.size + 1, 3, none⟩ = some (.int .i64 r.tr) ∧ X.cell? ⟨w.heap.size + 1, 4, none⟩ = some (.int .i64 r.off) ∧ X.cell? ⟨w.heap.size + 1, 5, none⟩ = some (.int .i64 r.dv) ∧ X.cell? ⟨w.heap.size + 1, 6, none⟩ = some (.int .i64 r.tn) ∧ Hid (Ext w4 X)) X' from fun X X' h hb => ⟨cell_ext hb h.1, cell_ext hb h.2.1, cell_ext hb h.2.2.1, cell_ext hb h.2.2.2.1, cell_ext hb h.2.2.2.2.1, cell_ext hb h.2.2.2.2.2.1, cell_ext hb h.2.2.2.2.2.2.1, cell_ext hb h.2.2.2.2.2.2.2.1, cell_ext hb h.2.2.2.2.2.2.2.2.1, Lib.hid (Ext.trans h.2.2.2.2.2.2.2.2.2.out hb)⟩)
              go_wp2_with fail
              refine wp_region_order (fun X : World => X.cell? ⟨w.heap.size, 0, none⟩ = some (.slice a (m + 1) cap) ∧ X.cell? ⟨w.heap.size, 1, none⟩ = some (.slice a' n' cap') ∧ X.cell? ⟨w.heap.size + 1, 0, none⟩ = some (.int .i64 r.lo) ∧ X.cell? ⟨w.heap.size + 1, 1, none⟩ = some (.int .i64 r.hi) ∧ X.cell? ⟨w.heap.size + 1, 2, none⟩ = some (.int .i64 r.st) ∧ X.cell? ⟨w.heap.size + 1, 3, none⟩ = some (.int .i64 r.tr) ∧ X.cell? ⟨w.heap.size + 1, 4, none⟩ = some (.int .i64 r.off) ∧ X.cell? ⟨w.heap.size + 1, 5, none⟩ = some (.int .i64 r.dv) ∧ X.cell? ⟨w.heap.size + 1, 6, none⟩ = some (.int .i64 r.tn) ∧ Hid (Ext w4 X)) [0, 1, 2, 3, 4, 5, 6, 7, 8, 9, 10] (by kernel_rfl) (by kernel_rfl) (by exact ⟨g1, g2, r0, r1, r2, r3, r4, r5, r6, Lib.hid (Ext.drew (Ext.refl _))⟩) (fun hHeld => ?_)
              simp only [opsIn, List.filterMap_cons, List.filterMap_nil, List.getElem?_toArray, List.getElem?_cons_succ, List.getElem?_cons_zero]
              refine' text_chunk 4 (by kernel_rfl) hHeld ?ck3 ?cr3
              case ck3 =>
                intro W hSw
                have hSW := hSw
                try dsimp only at hSW
                clear hSw
                simp only [List.take_succ_cons, List.take_zero, List.drop_succ_cons, List.drop_zero]
                repeat (go_big_quiet_step (fail))
                exact wpQuiet_nil rfl
              simp only [List.take_succ_cons, List.take_zero, List.drop_succ_cons, List.drop_zero]
              refine text_call (by rfl) (by rfl) (fun K hK => ?_)
              go_simp
              (go_at_call 46; refine (log46 _ _ _).mono ?_; rintro e w5 ⟨rfl, hb⟩)
              all_goals (try (go_wp2_with fail))
              refine hK.out _ _ (by exact HKP.out _ _ hHeld hb) (fun hHeld => ?_)
              clear hK K
              try simp only [Act.put, List.setIfInBounds_toArray, List.set_cons_zero, List.set_cons_succ]
              refine text_call (by rfl) (by rfl) (fun K hK => ?_)
              go_simp
              (go_at_call 18; refine (hij.out _ (HE1.out.trans (HX4.out.trans (of_and10 hHeld)))).mono ?_; rintro e w6 ⟨rfl, hb⟩)
              all_goals (try (go_wp2_with fail))
              refine hK.out _ _ (by exact HKP.out _ _ hHeld hb) (fun hHeld => ?_)
              clear hK K
              try simp only [Act.put, List.setIfInBounds_toArray, List.set_cons_zero, List.set_cons_succ]
              refine' text_chunk 5 (by kernel_rfl) hHeld ?ck4 ?cr4
              case ck4 =>
                intro W hSw
                have hSW := hSw
                try dsimp only at hSW
                clear hSw
                simp only [List.take_succ_cons, List.take_zero, List.drop_succ_cons, List.drop_zero]
                repeat (go_big_quiet_step (fail))
                exact wpQuiet_nil rfl
              simp only [List.take_succ_cons, List.take_zero, List.drop_succ_cons, List.drop_zero]
              refine text_done ?_
              have HX5 := Lib.hid (HX4.out.trans (of_and10 hHeld))
              clear hHeld g1 g2 r0 r1 r2 r3 r4 r5 r6
              cases u
              · go_wp2_with fail
                go_roundw
                case rel => exact ⟨j + 1, by omega, by omega, by go_num, by rw [HN.out], HX5⟩
                case measure => simp [intV]; omega
              · go_wp2_with fail
                go_roundw
                case rel => exact ⟨j + 1, by omega, by omega, by go_num, by rw [HN.out], HX5⟩
                case measure => simp [intV]; omega
          · have hd2 : decide (j ≤ m) = false := by simpa using hlj
            have hjm : j = m + 1 := by omega
            have HN := Lib.hid (show uO F at_ m (i + 1) = u by rw [uO_succ, HU.out, HUO.out, hjm, Nat.add_sub_cancel])
            clear hjm
            go_wp2_with fail
            go_roundw
            case rel => exact ⟨i + 1, by omega, by go_num, by rw [HN.out], HX4⟩
            case measure => simp [intV]; omega
      · have hd1 : decide ((i : Int) ≤ (at_ : Int)) = false := by simp; omega
        have hie : i = at_ + 1 := by omega
        rw [hie, ← HUS.out]
        clear hie hd1 hlt hi i
        obtain ⟨wA, rfl⟩ : ∃ x, x = wr := ⟨wr, rfl⟩
        have HE := Lib.hid (HE.out.trans hX.out)
        have HP := Lib.hid (HP.out.ext hX.out)
        clear hX
        obtain ⟨⟨g1, g2⟩, -⟩ := HP.out
        have HB0 := Lib.hid (BadX.made (Ext.refl wA) (.slice a (m + 1) cap))
        go_wp2_with fail
        go_loopw [14] (fun s wr => ∃ (i : Nat), i ≤ m ∧ s = .int .i64 (i : Int) ∧ Hid (∃ bv, BadX wA wr wA.heap.size (.slice a (m + 1) cap) bv (badL i fun i => hitB (decide (i = at_)) bd i))) (fun s wr => m - (intV s).toNat)
        case atStart => exact ⟨0, Nat.zero_le _, rfl, Lib.hid ⟨_, HB0.out⟩⟩
        case round =>
          clear g1 g2 HB0
          obtain ⟨i, hi, rfl, hBE⟩ := hrel
          obtain ⟨bv, hB⟩ := hBE.out
          replace hB := Lib.hid hB
          clear hBE
          obtain ⟨ab, capb, rfl, hcapb⟩ := hB.out.own.shape
          have hlen := badL_len i fun i => hitB (decide (i = at_)) bd i
          have hsucc := badL_succ i fun i => hitB (decide (i = at_)) bd i
          obtain ⟨bi, hbi⟩ : ∃ bi, bi = badL i fun i => hitB (decide (i = at_)) bd i := ⟨_, rfl⟩
          rw [← hbi] at hB hlen hcapb hsucc
          obtain ⟨cl, hcl⟩ : ∃ x, x = bi.length := ⟨_, rfl⟩
          rw [← hcl] at hB hlen hcapb
          have HCL := Lib.hid hcl; have HBI := Lib.hid hbi; have HS := Lib.hid hsucc
          clear hcl hbi hsucc
          obtain ⟨⟨g1, g2⟩, -⟩ := HP.out.ext hB.out.ext
          go_wp2_with fail
          refine (C43.out _).mono ?_
          rintro e w3 ⟨rfl, hb⟩
          have HB3 := Lib.hid (hB.out.turn hb)
          clear hb g1 g2
          have HX3 := Lib.hid HB3.out.ext
          obtain ⟨⟨g1, g2⟩, r0, r1, r2, r3, r4, r5, r6⟩ := HP.out.ext HX3.out
          by_cases hlt : i < m
          · have hd1 : decide (i < m) = true := by simpa using hlt
            obtain ⟨s0, hs0⟩ : ∃ s0, s0 = decide (i = at_) := ⟨_, rfl⟩
            have HS0 := Lib.hid hs0
            have hs1 : ((i : Int) == (at_ : Int)) = s0 := by rw [hs0, Bool.eq_iff_iff]; simp; omega
            have hs2 : (i == at_) = s0 := by rw [hs0, Bool.eq_iff_iff]; simp
            have hs3 : decide (i = at_) = s0 := hs0.symm
            clear hs0
            go_wp2_with fail
            go_loopw [15, 16] (fun s t wr => ∃ k : Nat, k ≤ n' ∧ t = .int .i64 (k : Int) ∧ s = .bool (hitB s0 (bd.take k) i) ∧ Hid (Ext w3 wr)) (fun s t wr => n' - (intV t).toNat)
            case atStart => exact ⟨0, Nat.zero_le _, rfl, by rw [List.take_zero, hitB_nil], Lib.hid (Ext.refl _)⟩
            case round =>
              obtain ⟨k, hk, rfl, rfl, hY⟩ := hrel
              obtain ⟨⟨g1, g2⟩, -⟩ := HP.out.ext (HX3.out.trans hY.out)
              by_cases hlk : k < n'
              · obtain ⟨b2, off, x, rfl, hx, hcx⟩ := (HD.out.ext (HE.out.trans (HX3.out.trans hY.out))).at (show k < bd.length by rw [← HNB.out]; exact hlk)
                have HT := Lib.hid (show hitB s0 (bd.take (k + 1)) i = (hitB s0 (bd.take k) i || x == (i : Int)) by rw [take_snoc hx, hitB_snoc])
                have hka : (0 : Int) ≤ (k : Int) := by omega
                have hkb : (k : Int) < (n' : Int) := by omega
                have htk : (k : Int).toNat = k := by omega
                clear hx
                cases hh : hitB s0 (bd.take k) i
                · have HN := Lib.hid (show hitB s0 (bd.take (k + 1)) i = (x == (i : Int)) by rw [HT.out, hh, Bool.false_or])
                  clear hh HT
                  go_wp2_with fail
                  go_roundw
                  case rel => exact ⟨k + 1, by omega, by go_num, by rw [HN.out], hY⟩
                  case measure => simp [intV]; omega
                · have HN := Lib.hid (show hitB s0 (bd.take (k + 1)) i = true by rw [HT.out, hh, Bool.true_or])
                  clear hh HT
                  go_wp2_with fail
                  go_roundw
                  case rel => exact ⟨k + 1, by omega, by go_num, by rw [HN.out], hY⟩
                  case measure => simp [intV]; omega
              · have hkb : ¬ (k : Int) < (n' : Int) := by omega
                have hk2 : k = bd.length := by rw [← HNB.out]; omega
                have HTT := Lib.hid (show bd.take k = bd by rw [hk2]; exact List.take_length)
                clear hk2
                rw [HTT.out]
                have HX4 := Lib.hid (HX3.out.trans hY.out)
                have HB4 := Lib.hid (HB3.out.turn hY.out)
                cases hh : hitB s0 bd i
                · have HN := Lib.hid (show badL (i + 1) (fun i => hitB (decide (i = at_)) bd i) = bi by rw [HS.out, ← HS0.out, hh]; simp)
                  clear hh
                  go_wp2_with fail
                  go_roundw
                  case rel => exact ⟨i + 1, by omega, by go_num, Lib.hid ⟨_, by rw [HN.out]; exact HB4.out⟩⟩
                  case measure => simp [intV]; omega
                · have HN := Lib.hid (show badL (i + 1) (fun i => hitB (decide (i = at_)) bd i) = bi ++ [(i : Int)] by rw [HS.out, ← HS0.out, hh]; simp)
                  obtain ⟨x0, x1, x2⟩ := HB4.out.cells
                  clear hh
                  go_wp2_with (at_builtin; first
                    | (refine appendI Try.underlying23 Try.info3 wr (wA.heap.size + 1) bi (i : Int) _ _ _ rfl rfl rfl HB4.out.own HB4.out.lt (by rw [← HCL.out]; omega) rfl ?_
                       intro v6 w6 hO6 hB6
                       obtain ⟨a6, cap6, rfl, -⟩ := hO6.shape
                       obtain ⟨l6, hl6⟩ : ∃ x, x = (bi ++ [(i : Int)]).length := ⟨_, rfl⟩
                       rw [← hl6] at hO6 ⊢
                       clear hl6
                       obtain ⟨k1, k2⟩ := HB4.out.mid hB6
                       have HP6 := Lib.hid (HB4.out.put hB6 hO6)
                       clear hO6 hB6 x0 x1 x2)
                    | fail)
                  go_roundw
                  case rel => exact ⟨i + 1, by omega, by go_num, Lib.hid ⟨_, by rw [HN.out]; exact HP6.out⟩⟩
                  case measure => simp [intV]; omega
          · have hd1 : decide (i < m) = false := by simpa using hlt
            have hie : i = m := by omega
            have HBM := Lib.hid (show bi = bl by rw [HBI.out, HBL.out, hie])
            clear hie
            have hB3 := HB3.out
            rw [HBM.out] at hB3
            have HB := Lib.hid hB3
            have HE := Lib.hid (HE.out.trans HX3.out)
            have HP := Lib.hid (HP.out.ext HX3.out)
            have HBL6 := Lib.hid (show bl.length ≤ 5000 from HBL5.out)
            clear hB3 HB3 hB HX3
            obtain ⟨x0, x1, -⟩ := HB.out.cells
            go_wp2_with fail
            refine (C26.out _ HE.out).mono ?_
            rintro e w20 ⟨rfl, hb⟩
            obtain ⟨⟨g1, g2⟩, r0, r1, r2, r3, r4, r5, r6⟩ := HP.out.ext hb
            have HE := Lib.hid (HE.out.trans hb)
            have HP := Lib.hid (HP.out.ext hb)
            have HB := Lib.hid (HB.out.turn hb)
            obtain ⟨x0, x1, -⟩ := HB.out.cells
            clear hb
            go_wp2_with fail
            refine (C26x.out _ _ HE.out (HB.out.own.reads HBL6.out)).mono ?_
            rintro e w21 ⟨rfl, hb⟩
            obtain ⟨⟨g1, g2⟩, r0, r1, r2, r3, r4, r5, r6⟩ := HP.out.ext hb
            have HE := Lib.hid (HE.out.trans hb)
            have HP := Lib.hid (HP.out.ext hb)
            have HB := Lib.hid (HB.out.turn hb)
            obtain ⟨x0, x1, -⟩ := HB.out.cells
            clear hb
            go_wp2_with fail
            refine (C32.out _ HE.out).mono ?_
            rintro e w22 ⟨rfl, hb⟩
            obtain ⟨⟨g1, g2⟩, r0, r1, r2, r3, r4, r5, r6⟩ := HP.out.ext hb
            have HE := Lib.hid (HE.out.trans hb)
            have HP := Lib.hid (HP.out.ext hb)
            have HB := Lib.hid (HB.out.turn hb)
            obtain ⟨x0, x1, -⟩ := HB.out.cells
            clear hb
            go_wp2_with fail
            refine (C32x.out _ _ HE.out (HB.out.own.reads HBL6.out)).mono ?_
            rintro e w23 ⟨rfl, hb⟩
            obtain ⟨⟨g1, g2⟩, r0, r1, r2, r3, r4, r5, r6⟩ := HP.out.ext hb
            have HE := Lib.hid (HE.out.trans hb)
            have HP := Lib.hid (HP.out.ext hb)
            have HB := Lib.hid (HB.out.turn hb)
            obtain ⟨x0, x1, -⟩ := HB.out.cells
            clear hb
            clear x0 x1
            go_wp2_with fail
            refine (C28.out _ HE.out).mono ?_
            rintro e w24 ⟨hb, ⟨he, -⟩ | ⟨-, v, c, rfl, hv, hc1, hc2⟩⟩
            · exact absurd rfl he
            have HE := Lib.hid (HE.out.trans hb)
            have HV := Lib.hid hv; have HC1 := Lib.hid hc1
            clear hb hv hc2 g1 g2 r0 r1 r2 r3 r4 r5 r6
            obtain ⟨hl5, av, capv, hve⟩ := HV.out.shape
            subst hve
            have HALL := Lib.hid (cuts_all c 0 HC1.out).1
            have hcl6 := HC5.out c HC1.out
            obtain ⟨ln, hln⟩ : ∃ ln, ln = (lgI c).length := ⟨_, rfl⟩
            rw [← hln] at HV hl5 ⊢
            have hln2 : ln = c.length := by rw [hln, lgI_len]
            have HLN := Lib.hid hln; have HLN2 := Lib.hid hln2
            have hl60 : ln ≤ 60 := by omega
            clear hln hln2 hc1 hcl6
            cases us
            · obtain ⟨hs1, hs2⟩ := HSM.out rfl
              have hs3 : d1 = c1 := congrArg Prod.fst hs2
              have hs4 : d2 = c2 := congrArg Prod.snd hs2
              subst hs1; subst hs3; subst hs4
              clear hs2
              go_wp2_with fail
              go_loopw [27] (fun s wr => ∃ k : Nat, k ≤ ln ∧ s = .int .i64 (k : Int) ∧ Hid (Ext w24 wr)) (fun s wr => ln - (intV s).toNat)
              case atStart => exact ⟨0, Nat.zero_le _, rfl, Lib.hid (Ext.refl _)⟩
              case round =>
                obtain ⟨k, hk, rfl, hZ⟩ := hrel
                by_cases hlk : k < ln
                · obtain ⟨⟨i, j⟩, hq⟩ := get_some (show k < c.length by rw [← HLN2.out]; exact hlk)
                  have hq2 : (lgI c)[k]? = some ((i : Int), (j : Int)) := by unfold lgI; rw [List.getElem?_map, hq]; rfl
                  obtain ⟨b2, off, p2, rfl, hq3, z1, z2⟩ := (HV.out.ext hZ.out).at (show k < (lgI c).length by rw [← HLN.out]; exact hlk)
                  rw [hq2] at hq3
                  cases hq3
                  simp only at z1 z2
                  have hij := HALL.out (i, j) (List.mem_of_getElem? hq)
                  have hka : (0 : Int) ≤ (k : Int) := by omega
                  have hkb : (k : Int) < (ln : Int) := by omega
                  have htk : (k : Int).toNat = k := by omega
                  clear hq hq2
                  by_cases hia : i ≤ at_
                  · have hia2 : decide (i ≤ at_) = true := by simpa using hia
                    by_cases hja : at_ < j
                    · exfalso
                      have h1 := HUN.out (by trivial) i j hia hja hij.2.2.1
                      have h2 := hij.2.2.2
                      rw [h1] at h2
                      cases h2
                    · have hja2 : decide (at_ < j) = false := by simpa using hja
                      clear hij
                      go_wp2_with fail
                      go_roundw
                      case rel => exact ⟨k + 1, by omega, by go_num, hZ⟩
                      case measure => simp [intV]; omega
                  · have hia2 : decide (i ≤ at_) = false := by simpa using hia
                    clear hij
                    go_wp2_with fail
                    go_roundw
                    case rel => exact ⟨k + 1, by omega, by go_num, hZ⟩
                    case measure => simp [intV]; omega
                · have hkb : ¬ (k : Int) < (ln : Int) := by omega
                  have HE := Lib.hid (HE.out.trans hZ.out)
                  clear hk hlk
                  go_wp2_with fail
                  refine (works17 _).mono ?_
                  rintro e w9 ⟨rfl, hb⟩
                  have HE := Lib.hid (HE.out.trans hb); clear hb
                  go_wp2
                  go_ret
                  exact ⟨rfl, HE.out⟩
            · have hT : true = true := rfl
              go_wp2_with fail
              go_loopw [27] (fun s wr => ∃ k : Nat, k ≤ ln ∧ s = .int .i64 (k : Int) ∧ Hid (Ext w24 wr)) (fun s wr => ln - (intV s).toNat)
              case atStart => exact ⟨0, Nat.zero_le _, rfl, Lib.hid (Ext.refl _)⟩
              case round =>
                obtain ⟨k, hk, rfl, hZ⟩ := hrel
                by_cases hlk : k < ln
                · obtain ⟨⟨i, j⟩, hq⟩ := get_some (show k < c.length by rw [← HLN2.out]; exact hlk)
                  have hq2 : (lgI c)[k]? = some ((i : Int), (j : Int)) := by unfold lgI; rw [List.getElem?_map, hq]; rfl
                  obtain ⟨b2, off, p2, rfl, hq3, z1, z2⟩ := (HV.out.ext hZ.out).at (show k < (lgI c).length by rw [← HLN.out]; exact hlk)
                  rw [hq2] at hq3
                  cases hq3
                  simp only at z1 z2
                  have hij := HALL.out (i, j) (List.mem_of_getElem? hq)
                  have hka : (0 : Int) ≤ (k : Int) := by omega
                  have hkb : (k : Int) < (ln : Int) := by omega
                  have htk : (k : Int).toNat = k := by omega
                  clear hq hq2
                  by_cases hia : i ≤ at_
                  · have hia2 : decide (i ≤ at_) = true := by simpa using hia
                    by_cases hja : at_ < j
                    · have hja2 : decide (at_ < j) = true := by simpa using hja
                      clear hij
                      go_wp2_with fail
                      go_roundw
                      case rel => exact ⟨k + 1, by omega, by go_num, hZ⟩
                      case measure => simp [intV]; omega
                    · have hja2 : decide (at_ < j) = false := by simpa using hja
                      clear hij
                      go_wp2_with fail
                      go_roundw
                      case rel => exact ⟨k + 1, by omega, by go_num, hZ⟩
                      case measure => simp [intV]; omega
                  · have hia2 : decide (i ≤ at_) = false := by simpa using hia
                    clear hij
                    go_wp2_with fail
                    go_roundw
                    case rel => exact ⟨k + 1, by omega, by go_num, hZ⟩
                    case measure => simp [intV]; omega
                · have hkb : ¬ (k : Int) < (ln : Int) := by omega
                  have HE := Lib.hid (HE.out.trans hZ.out)
                  clear hk hlk
                  go_wp2_with fail
                  refine (works17 _).mono ?_
                  rintro e w9 ⟨rfl, hb⟩
                  have HE := Lib.hid (HE.out.trans hb); clear hb
                  go_wp2
                  go_ret
                  exact ⟨rfl, HE.out⟩
end Go.Proofs.Ytcgheakadfjofaa
