/- ScaleSplit, by its contract. -/
import Derived.Test.YtcgheakadfjofaaR1
import Derived.Test.YtcgheakadfjofaaH5
namespace Go.Proofs.Ytcgheakadfjofaa
open Go.RowKit
set_option linter.unusedVariables false
set_option linter.unusedSimpArgs false
attribute [local go_sem] Oper.semAt_some
set_option maxRecDepth 100000 in
set_option maxHeartbeats 8000000 in
theorem split9 (a a' : Option Addr) (cap cap' : Nat) (th bd : List Int) (r : Rl) (pl : Nat) (w : World) (hlen : th.length ≤ cap ∧ cap ≤ 9223372036854775807) (hlen' : bd.length ≤ cap' ∧ cap' ≤ 9223372036854775807) (hr : th.length ≤ 5000 → Reads w (.slice a th.length cap) th) (hr' : bd.length ≤ 5000 → Reads w (.slice a' bd.length cap') bd) (hpl : pl ≤ 255) :
    Calls Try.prog 9 #[.agg #[.slice a th.length cap, .slice a' bd.length cap'], r.val, .int .u8 (pl : Int)] w fun e w' => e = .returned (.bool true) ∧ Ext w w' := by
  obtain ⟨BF, hf1, hf2⟩ := fine40 a a' cap cap' th bd r w hlen hlen' hr hr'
  have C40 := Lib.hid hf1
  obtain ⟨n, hn⟩ : ∃ n, n = th.length := ⟨_, rfl⟩
  obtain ⟨n', hn'⟩ : ∃ n', n' = bd.length := ⟨_, rfl⟩
  rw [← hn] at hlen hr ⊢
  rw [← hn'] at hlen' hr' ⊢
  have E0 := Lib.hid (Ext.alloc (Ext.alloc (Ext.refl w) (.cells #[.slice a n cap, .slice a' n' cap'] 25)) (.cells #[.int .i64 r.lo, .int .i64 r.hi, .int .i64 r.st, .int .i64 r.tr, .int .i64 r.off, .int .i64 r.dv, .int .i64 r.tn] 27))
  have P0 := Lib.hid (SR.new w (.slice a n cap) (.slice a' n' cap') r)
  rw [← hn, ← hn'] at C40 hf2
  cases BF with
  | false =>
    clear hr hr' hf1 hf2 hn hn' 
    obtain ⟨⟨g1, g2⟩, r0, r1, r2, r3, r4, r5, r6⟩ := P0.out
    have HE := E0
    have HP := P0
    go_enter Try.func9, Try.ntmps9
    go_wp2_with fail
    refine (C40.out _ HE.out).mono ?_
    rintro e w1 ⟨rfl, hb⟩
    obtain ⟨⟨g1, g2⟩, r0, r1, r2, r3, r4, r5, r6⟩ := HP.out.ext hb
    have HE := Lib.hid (HE.out.trans hb)
    have HP := Lib.hid (HP.out.ext hb)
    clear hb
    go_wp2_with fail
    refine (works17 _).mono ?_
    rintro e w9 ⟨rfl, hb⟩
    have HE := Lib.hid (HE.out.trans hb); clear hb
    go_wp2
    go_ret
    exact ⟨rfl, HE.out⟩
  | true =>
    by_cases hn3 : n < 3
    · have hz : decide ((n : Int) < 3) = true := by simp; omega
      have hz2 : decide (n < 3) = true := by simpa using hn3
      clear hr hr' hf1 hf2 hn hn'
      obtain ⟨⟨g1, g2⟩, r0, r1, r2, r3, r4, r5, r6⟩ := P0.out
      have HE := E0
      have HP := P0
      go_enter Try.func9, Try.ntmps9
      go_wp2_with fail
      refine (C40.out _ HE.out).mono ?_
      rintro e w1 ⟨rfl, hb⟩
      obtain ⟨⟨g1, g2⟩, r0, r1, r2, r3, r4, r5, r6⟩ := HP.out.ext hb
      have HE := Lib.hid (HE.out.trans hb)
      have HP := Lib.hid (HP.out.ext hb)
      clear hb
      go_wp2_with fail
      refine (works17 _).mono ?_
      rintro e w9 ⟨rfl, hb⟩
      have HE := Lib.hid (HE.out.trans hb); clear hb
      go_wp2
      go_ret
      exact ⟨rfl, HE.out⟩
    have hz : decide ((n : Int) < 3) = false := by simp; omega
    have hz2 : decide (n < 3) = false := by simpa using hn3
    obtain ⟨hE, ht, hd⟩ := hf2 rfl
    obtain ⟨q1, q2⟩ := vs_len hE
    obtain ⟨hvs, hvr⟩ := bothE_ok.1 hE
    obtain ⟨m, hm⟩ : ∃ m, m = th.length - 1 := ⟨_, rfl⟩
    obtain ⟨q, hq⟩ : ∃ x : Nat, x = pl % (n - 2) := ⟨_, rfl⟩
    have hqn : q < n - 2 := by rw [hq]; exact Nat.mod_lt _ (by omega)
    have hpp : (pl : Int) % ((n : Int) - 2) = (q : Int) := by
      rw [hq, Int.natCast_emod]
      congr 1
      omega
    obtain ⟨p, hp⟩ : ∃ p : Nat, p = 1 + q := ⟨_, rfl⟩
    have hp1 : (1 : Int) + (q : Int) = (p : Int) := by omega
    have hn0 : (((n : Int) - 2) == 0) = false := by simp; omega
    have hn01 : ¬ ((n : Int) - 2) = 0 := by omega
    have hp0 : 0 < p := by omega
    have hm60 : m ≤ 60 := by omega
    have hn61 : n ≤ 61 := by omega
    have hpm : p < m := by omega
    have x42a : ∀ (W : World), Ext w W → Calls Try.prog 42 #[.agg #[.slice a n cap, .slice a' n' cap'], .int .i64 0, .int .i64 (p : Int)] W fun e w' => ∃ v1 v2, e = .returned (.agg #[v1, v2]) ∧ Reads w' v1 (th.take (p + 1)) ∧ Reads w' v2 (prtB bd 0 p) ∧ Ext W w' := fun W h => by
      have hx := ht.ext h
      rw [hn] at hx
      have := part42 a cap _ th bd 0 p W hx (hd.ext h) (by omega) hp0 (by omega) q2 (fun x hx => by have := hvs.bad x hx; omega)
      rw [← hn, List.drop_zero, Nat.sub_zero] at this
      exact this
    have x42b : ∀ (W : World), Ext w W → Calls Try.prog 42 #[.agg #[.slice a n cap, .slice a' n' cap'], .int .i64 (p : Int), .int .i64 (m : Int)] W fun e w' => ∃ v1 v2, e = .returned (.agg #[v1, v2]) ∧ Reads w' v1 (th.drop p) ∧ Reads w' v2 (prtB bd p m) ∧ Ext W w' := fun W h => by
      have hx := ht.ext h
      rw [hn] at hx
      have := part42 a cap _ th bd p m W hx (hd.ext h) (by omega) hpm (by omega) q2 (fun x hx => by have := hvs.bad x hx; omega)
      rw [← hn, List.take_of_length_le (by rw [List.length_drop]; omega)] at this
      exact this
    have hb1 : bothE (th.take (p + 1)) (prtB bd 0 p) r = 0 := bothE_ok.2 ⟨vs_take hvs hp0 (by omega), hvr⟩
    have hb2 : bothE (th.drop p) (prtB bd p m) r = 0 := bothE_ok.2 ⟨vs_drop hvs hm hpm, hvr⟩
    have hv1 : bestV (th.take (p + 1)) (prtB bd 0 p) r = bst (sF th bd r) allB p 0 := by
      unfold bestV
      rw [if_pos hb1, show (th.take (p + 1)).length - 1 = p by rw [List.length_take]; omega, bst_takeP]
    have hv2 : bestV (th.drop p) (prtB bd p m) r = bst (sF th bd r) allB m p := by
      unfold bestV
      rw [if_pos hb2, show (th.drop p).length - 1 = m - p by rw [List.length_drop]; omega, bst_dropP (by omega)]
    have x26a := fun (W : World) (v1 v2 : Value) (h1 : Reads W v1 (th.take (p + 1))) (h2 : Reads W v2 (prtB bd 0 p)) => best26v v1 v2 _ _ r W h1 h2
    have x26b := fun (W : World) (v1 v2 : Value) (h1 : Reads W v1 (th.drop p)) (h2 : Reads W v2 (prtB bd p m)) => best26v v1 v2 _ _ r W h1 h2
    rw [hv1, hb1] at x26a
    rw [hv2, hb2] at x26b
    have hB : bestV th bd r = bst (sF th bd r) allB m 0 := by unfold bestV; rw [if_pos hE, hm]
    have C26 := Lib.hid (fun (W : World) (h : Ext w W) => best26v _ _ th bd r W (ht.ext h) (hd.ext h))
    have C28 := Lib.hid (fun (W : World) (h : Ext w W) => cut28 _ _ th bd r W (ht.ext h) (hd.ext h))
    rw [hE] at C26 C28
    have C36 := Lib.hid (fun (W : World) (h : Ext w W) => loss36 a n cap (.slice a' n' cap') th bd r (p : Int) W (ht.ext h) hlen.1 (hd.ext h))
    rw [lossE_ok hE (show p ≤ th.length - 1 by omega), ← hm, ← hB] at C36
    have C43 := Lib.hid (fun (W : World) => show Calls Try.prog 43 #[.agg #[.slice a n cap, .slice a' n' cap']] W fun e w' => e = .returned (.int .i64 (m : Int)) ∧ Ext W w' from by
      have := long43 a n cap (.slice a' n' cap') W (by omega)
      rw [show (n : Int) - 1 = (m : Int) by omega] at this
      exact this)
    have hln := loss_nonneg (f := sF th bd r) (show p ≤ m by omega)
    have hsome := fun (c : List (Nat × Nat)) (h : Cuts (sF th bd r) allB m 0 c) => some_over (f := sF th bd r) (show p ≤ m by omega) h
    have hbd : bestV th bd r ≤ 1099511627776 := by
      rw [hB]
      have := bst_bound (f := sF th bd r) (lt := allB) (n := m) (M := 216000) (by omega) (fun i j => (scl_bd hvs hvr i j).2) 0 (Nat.zero_le _)
      omega
    have n1 := bst_nonneg (sF th bd r) allB p 0
    have n2 := bst_nonneg (sF th bd r) allB m p
    have hc5 : ∀ c, Cuts (sF th bd r) allB m 0 c → c.length ≤ 60 := fun c h => by
      have := cuts_len c 0 h
      omega
    unfold CutPost at C28
    rw [← hm, ← hB] at C28
    rw [← hB] at hln
    have hf26 : True := trivial
    generalize bestV th bd r = BV at *
    generalize bst (sF th bd r) allB p 0 = B1 at *
    generalize bst (sF th bd r) allB m p = B2 at *
    generalize hF : sF th bd r = F at *
    generalize th.take (p + 1) = th1 at *
    generalize prtB bd 0 p = bd1 at *
    generalize th.drop p = th2 at *
    generalize prtB bd p m = bd2 at *
    obtain ⟨L, hL⟩ : ∃ L, L = BV - B2 - B1 := ⟨_, rfl⟩
    rw [← hL] at C36 hln
    have l0 : decide (L < 0) = false := by simp; omega
    have l1 : decide (B1 < 0) = false := by simp; omega
    have l2 : decide (B2 < 0) = false := by simp; omega
    have l3 : decide (BV > 1099511627776) = false := by simp; omega
    have l3' : decide (1099511627776 < BV) = false := by simp; omega
    have hw1 : IntKind.i64.wrap (B1 + B2) = B1 + B2 := wrapi64 _ (by omega) (by omega)
    have hw2 : IntKind.i64.wrap (B1 + B2 + L) = BV := by rw [show B1 + B2 + L = BV by omega]; exact wrapi64 _ (by omega) (by omega)
    have H42a := Lib.hid x42a; have H42b := Lib.hid x42b; have H26a := Lib.hid x26a; have H26b := Lib.hid x26b; have HC5 := Lib.hid hc5; have HSOME := Lib.hid hsome; have HL := Lib.hid hL
    clear hr hr' hf1 hf2 hn hn' ht hd hE hvs hvr hm hq hqn hp x42a x42b hb1 hb2 hv1 hv2 x26a x26b hB hsome hc5 hF q1 q2 hL hf26 hn3 hbd
    obtain ⟨⟨g1, g2⟩, r0, r1, r2, r3, r4, r5, r6⟩ := P0.out
    have HE := E0
    have HP := P0
    go_enter Try.func9, Try.ntmps9
    go_wp2_with fail
    refine (C40.out _ HE.out).mono ?_
    rintro e w1 ⟨rfl, hb⟩
    obtain ⟨⟨g1, g2⟩, r0, r1, r2, r3, r4, r5, r6⟩ := HP.out.ext hb
    have HE := Lib.hid (HE.out.trans hb)
    have HP := Lib.hid (HP.out.ext hb)
    clear hb
    go_wp2_with fail
    refine (C26.out _ HE.out).mono ?_
    rintro e w2 ⟨rfl, hb⟩
    obtain ⟨⟨g1, g2⟩, r0, r1, r2, r3, r4, r5, r6⟩ := HP.out.ext hb
    have HE := Lib.hid (HE.out.trans hb)
    have HP := Lib.hid (HP.out.ext hb)
    clear hb
    have HKP := Lib.hid (show ∀ X X' : World, (fun X : World => X.cell? ⟨w.heap.size, 0, none⟩ = some (.slice a n cap) ∧ X.cell? ⟨w.heap.size, 1, none⟩ = some (.slice a' n' cap') ∧ X.cell? ⟨w.heap.size + 1, 0, none⟩ = some (.int .i64 r.lo) ∧ X.cell? ⟨w.heap.size + 1, 1, none⟩ = some (.int .i64 r.hi) ∧ X.cell? ⟨w.heap.size + 1, 2, none⟩ = some (.int .i64 r.st) ∧ X.cell? ⟨w.heap.size + 1, 3, none⟩ = some (.int .i64 r.tr) ∧ X.cell? ⟨w.heap.size + 1, 4, none⟩ = some (.int .i64 r.off) ∧ X.cell? ⟨w.heap.size + 1, 5, none⟩ = some (.int .i64 r.dv) ∧ X.cell? ⟨w.heap.size + 1, 6, none⟩ = some (.int .i64 r.tn) ∧ Hid (Ext w2 X)) X → Ext X X' → (fun X : World => X.cell? ⟨w.heap.size, 0, none⟩ = some (.slice a n cap) ∧ X.cell? ⟨w.heap.size, 1, none⟩ = some (.slice a' n' cap') ∧ X.cell? ⟨w.heap.size + 1, 0, none⟩ = some (.int .i64 r.lo) ∧ X.cell? ⟨w.heap.size + 1, 1, none⟩ = some (.int .i64 r.hi) ∧ X.cell? ⟨w.heap.size + 1, 2, none⟩ = some (.int .i64 r.st) ∧ X.cell? ⟨w.heap.size + 1, 3, none⟩ = some (.int .i64 r.tr) ∧ X.cell? ⟨w.heap.size + 1, 4, none⟩ = some (.int .i64 r.off) ∧ X.cell? ⟨w.heap.size + 1, 5, none⟩ = some (.int .i64 r.dv) ∧ X.cell? ⟨w.heap.size + 1, 6, none⟩ = some (.int .i64 r.tn) ∧ Hid (Ext w2 X)) X' from fun X X' h hb => ⟨cell_ext hb h.1, cell_ext hb h.2.1, cell_ext hb h.2.2.1, cell_ext hb h.2.2.2.1, cell_ext hb h.2.2.2.2.1, cell_ext hb h.2.2.2.2.2.1, cell_ext hb h.2.2.2.2.2.2.1, cell_ext hb h.2.2.2.2.2.2.2.1, cell_ext hb h.2.2.2.2.2.2.2.2.1, Lib.hid (Ext.trans h.2.2.2.2.2.2.2.2.2.out hb)⟩)
    go_wp2_with fail
    refine wp_region_order (fun X : World => X.cell? ⟨w.heap.size, 0, none⟩ = some (.slice a n cap) ∧ X.cell? ⟨w.heap.size, 1, none⟩ = some (.slice a' n' cap') ∧ X.cell? ⟨w.heap.size + 1, 0, none⟩ = some (.int .i64 r.lo) ∧ X.cell? ⟨w.heap.size + 1, 1, none⟩ = some (.int .i64 r.hi) ∧ X.cell? ⟨w.heap.size + 1, 2, none⟩ = some (.int .i64 r.st) ∧ X.cell? ⟨w.heap.size + 1, 3, none⟩ = some (.int .i64 r.tr) ∧ X.cell? ⟨w.heap.size + 1, 4, none⟩ = some (.int .i64 r.off) ∧ X.cell? ⟨w.heap.size + 1, 5, none⟩ = some (.int .i64 r.dv) ∧ X.cell? ⟨w.heap.size + 1, 6, none⟩ = some (.int .i64 r.tn) ∧ Hid (Ext w2 X)) [0, 1, 3, 2, 4, 5, 6, 7, 8, 9] (by kernel_rfl) (by kernel_rfl) (by exact ⟨g1, g2, r0, r1, r2, r3, r4, r5, r6, Lib.hid (Ext.drew (Ext.refl _))⟩) (fun hHeld => ?_)
    simp only [opsIn, List.filterMap_cons, List.filterMap_nil, List.getElem?_toArray, List.getElem?_cons_succ, List.getElem?_cons_zero]
    refine' text_chunk 3 (by kernel_rfl) hHeld ?ck1 ?cr1
    case ck1 =>
      intro W hSw
      have hSW := hSw
      try dsimp only at hSW
      clear hSw
      simp only [List.take_succ_cons, List.take_zero, List.drop_succ_cons, List.drop_zero]
      repeat (go_big_quiet_step (fail))
      exact wpQuiet_nil rfl
    simp only [List.take_succ_cons, List.take_zero, List.drop_succ_cons, List.drop_zero]
    refine text_call_more (by rfl) (by rfl) (fun K hK => ?_)
    go_simp
    (go_at_call 42; refine (H42a.out _ (HE.out.trans (of_and10 hHeld))).mono ?_; rintro e w52 ⟨v1, v2, rfl, hr1, hr2, hb⟩)
    all_goals (try (go_wp2_with fail))
    refine hK.out (fun X : World => Hid (Reads X v1 th1) ∧ Hid (Reads X v2 bd1) ∧ (fun X : World => X.cell? ⟨w.heap.size, 0, none⟩ = some (.slice a n cap) ∧ X.cell? ⟨w.heap.size, 1, none⟩ = some (.slice a' n' cap') ∧ X.cell? ⟨w.heap.size + 1, 0, none⟩ = some (.int .i64 r.lo) ∧ X.cell? ⟨w.heap.size + 1, 1, none⟩ = some (.int .i64 r.hi) ∧ X.cell? ⟨w.heap.size + 1, 2, none⟩ = some (.int .i64 r.st) ∧ X.cell? ⟨w.heap.size + 1, 3, none⟩ = some (.int .i64 r.tr) ∧ X.cell? ⟨w.heap.size + 1, 4, none⟩ = some (.int .i64 r.off) ∧ X.cell? ⟨w.heap.size + 1, 5, none⟩ = some (.int .i64 r.dv) ∧ X.cell? ⟨w.heap.size + 1, 6, none⟩ = some (.int .i64 r.tn) ∧ Hid (Ext w2 X)) X) _ _ (fun W h => h.2.2) (by exact ⟨Lib.hid hr1, Lib.hid hr2, HKP.out _ _ hHeld hb⟩) (fun hHeld => ?_)
    clear hK K
    try simp only [Act.put, List.setIfInBounds_toArray, List.set_cons_zero, List.set_cons_succ]
    refine text_call (by rfl) (by rfl) (fun K hK => ?_)
    go_simp
    (go_at_call 26; refine (H26a.out _ _ _ hHeld.1.out hHeld.2.1.out).mono ?_; rintro e w53 ⟨rfl, hb⟩)
    all_goals (try (go_wp2_with fail))
    refine hK.out _ _ (by exact ⟨Lib.hid (hHeld.1.out.ext hb), Lib.hid (hHeld.2.1.out.ext hb), HKP.out _ _ hHeld.2.2 hb⟩) (fun hHeld => ?_)
    clear hK K
    try simp only [Act.put, List.setIfInBounds_toArray, List.set_cons_zero, List.set_cons_succ]
    refine' text_chunk 5 (by kernel_rfl) hHeld ?ck2 ?cr2
    case ck2 =>
      intro W hSw
      have hSW := hSw
      try dsimp only at hSW
      clear hSw
      simp only [List.take_succ_cons, List.take_zero, List.drop_succ_cons, List.drop_zero]
      repeat (go_big_quiet_step (fail))
      exact wpQuiet_nil rfl
    simp only [List.take_succ_cons, List.take_zero, List.drop_succ_cons, List.drop_zero]
    refine text_done ?_
    have hX := hHeld.2.2
    have HX9 := Lib.hid (of_and10 hX)
    clear hHeld hX g1 g2 r0 r1 r2 r3 r4 r5 r6
    obtain ⟨⟨g1, g2⟩, r0, r1, r2, r3, r4, r5, r6⟩ := HP.out.ext HX9.out
    replace HE := Lib.hid (HE.out.trans HX9.out)
    replace HP := Lib.hid (HP.out.ext HX9.out)
    obtain ⟨w3, hw3⟩ : ∃ x, x = w53 := ⟨_, rfl⟩
    rw [← hw3] at HX9 g1 g2 r0 r1 r2 r3 r4 r5 r6 HE HP ⊢
    clear hw3 HX9
    have HKP := Lib.hid (show ∀ X X' : World, (fun X : World => X.cell? ⟨w.heap.size, 0, none⟩ = some (.slice a n cap) ∧ X.cell? ⟨w.heap.size, 1, none⟩ = some (.slice a' n' cap') ∧ X.cell? ⟨w.heap.size + 1, 0, none⟩ = some (.int .i64 r.lo) ∧ X.cell? ⟨w.heap.size + 1, 1, none⟩ = some (.int .i64 r.hi) ∧ X.cell? ⟨w.heap.size + 1, 2, none⟩ = some (.int .i64 r.st) ∧ X.cell? ⟨w.heap.size + 1, 3, none⟩ = some (.int .i64 r.tr) ∧ X.cell? ⟨w.heap.size + 1, 4, none⟩ = some (.int .i64 r.off) ∧ X.cell? ⟨w.heap.size + 1, 5, none⟩ = some (.int .i64 r.dv) ∧ X.cell? ⟨w.heap.size + 1, 6, none⟩ = some (.int .i64 r.tn) ∧ Hid (Ext w3 X)) X → Ext X X' → (fun X : World => X.cell? ⟨w.heap.size, 0, none⟩ = some (.slice a n cap) ∧ X.cell? ⟨w.heap.size, 1, none⟩ = some (.slice a' n' cap') ∧ X.cell? ⟨w.heap.size + 1, 0, none⟩ = some (.int .i64 r.lo) ∧ X.cell? ⟨w.heap.size + 1, 1, none⟩ = some (.int .i64 r.hi) ∧ X.cell? ⟨w.heap.size + 1, 2, none⟩ = some (.int .i64 r.st) ∧ X.cell? ⟨w.heap.size + 1, 3, none⟩ = some (.int .i64 r.tr) ∧ X.cell? ⟨w.heap.size + 1, 4, none⟩ = some (.int .i64 r.off) ∧ X.cell? ⟨w.heap.size + 1, 5, none⟩ = some (.int .i64 r.dv) ∧ X.cell? ⟨w.heap.size + 1, 6, none⟩ = some (.int .i64 r.tn) ∧ Hid (Ext w3 X)) X' from fun X X' h hb => ⟨cell_ext hb h.1, cell_ext hb h.2.1, cell_ext hb h.2.2.1, cell_ext hb h.2.2.2.1, cell_ext hb h.2.2.2.2.1, cell_ext hb h.2.2.2.2.2.1, cell_ext hb h.2.2.2.2.2.2.1, cell_ext hb h.2.2.2.2.2.2.2.1, cell_ext hb h.2.2.2.2.2.2.2.2.1, Lib.hid (Ext.trans h.2.2.2.2.2.2.2.2.2.out hb)⟩)
    go_wp2_with fail
    refine wp_region_order (fun X : World => X.cell? ⟨w.heap.size, 0, none⟩ = some (.slice a n cap) ∧ X.cell? ⟨w.heap.size, 1, none⟩ = some (.slice a' n' cap') ∧ X.cell? ⟨w.heap.size + 1, 0, none⟩ = some (.int .i64 r.lo) ∧ X.cell? ⟨w.heap.size + 1, 1, none⟩ = some (.int .i64 r.hi) ∧ X.cell? ⟨w.heap.size + 1, 2, none⟩ = some (.int .i64 r.st) ∧ X.cell? ⟨w.heap.size + 1, 3, none⟩ = some (.int .i64 r.tr) ∧ X.cell? ⟨w.heap.size + 1, 4, none⟩ = some (.int .i64 r.off) ∧ X.cell? ⟨w.heap.size + 1, 5, none⟩ = some (.int .i64 r.dv) ∧ X.cell? ⟨w.heap.size + 1, 6, none⟩ = some (.int .i64 r.tn) ∧ Hid (Ext w3 X)) [0, 1, 2, 5, 3, 4, 6, 7, 8, 9, 10, 11] (by kernel_rfl) (by kernel_rfl) (by exact ⟨g1, g2, r0, r1, r2, r3, r4, r5, r6, Lib.hid (Ext.drew (Ext.refl _))⟩) (fun hHeld => ?_)
    simp only [opsIn, List.filterMap_cons, List.filterMap_nil, List.getElem?_toArray, List.getElem?_cons_succ, List.getElem?_cons_zero]
    refine' text_chunk 4 (by kernel_rfl) hHeld ?ck3 ?cr3
    case ck3 =>
      intro W hSw
      have hSW := hSw
      try dsimp only at hSW
      clear hSw
      simp only [List.take_succ_cons, List.take_zero, List.drop_succ_cons, List.drop_zero]
      repeat (go_big_quiet_step (fail))
      exact wpQuiet_nil rfl
    simp only [List.take_succ_cons, List.take_zero, List.drop_succ_cons, List.drop_zero]
    refine text_call (by rfl) (by rfl) (fun K hK => ?_)
    go_simp
    (go_at_call 43; refine (C43.out _).mono ?_; rintro e w51 ⟨rfl, hb⟩)
    all_goals (try (go_wp2_with fail))
    refine hK.out _ _ (by exact HKP.out _ _ hHeld hb) (fun hHeld => ?_)
    clear hK K
    try simp only [Act.put, List.setIfInBounds_toArray, List.set_cons_zero, List.set_cons_succ]
    refine text_call_more (by rfl) (by rfl) (fun K hK => ?_)
    go_simp
    (go_at_call 42; refine (H42b.out _ (HE.out.trans (of_and10 hHeld))).mono ?_; rintro e w52 ⟨v1, v2, rfl, hr1, hr2, hb⟩)
    all_goals (try (go_wp2_with fail))
    refine hK.out (fun X : World => Hid (Reads X v1 th2) ∧ Hid (Reads X v2 bd2) ∧ (fun X : World => X.cell? ⟨w.heap.size, 0, none⟩ = some (.slice a n cap) ∧ X.cell? ⟨w.heap.size, 1, none⟩ = some (.slice a' n' cap') ∧ X.cell? ⟨w.heap.size + 1, 0, none⟩ = some (.int .i64 r.lo) ∧ X.cell? ⟨w.heap.size + 1, 1, none⟩ = some (.int .i64 r.hi) ∧ X.cell? ⟨w.heap.size + 1, 2, none⟩ = some (.int .i64 r.st) ∧ X.cell? ⟨w.heap.size + 1, 3, none⟩ = some (.int .i64 r.tr) ∧ X.cell? ⟨w.heap.size + 1, 4, none⟩ = some (.int .i64 r.off) ∧ X.cell? ⟨w.heap.size + 1, 5, none⟩ = some (.int .i64 r.dv) ∧ X.cell? ⟨w.heap.size + 1, 6, none⟩ = some (.int .i64 r.tn) ∧ Hid (Ext w3 X)) X) _ _ (fun W h => h.2.2) (by exact ⟨Lib.hid hr1, Lib.hid hr2, HKP.out _ _ hHeld hb⟩) (fun hHeld => ?_)
    clear hK K
    try simp only [Act.put, List.setIfInBounds_toArray, List.set_cons_zero, List.set_cons_succ]
    refine text_call (by rfl) (by rfl) (fun K hK => ?_)
    go_simp
    (go_at_call 26; refine (H26b.out _ _ _ hHeld.1.out hHeld.2.1.out).mono ?_; rintro e w53 ⟨rfl, hb⟩)
    all_goals (try (go_wp2_with fail))
    refine hK.out _ _ (by exact ⟨Lib.hid (hHeld.1.out.ext hb), Lib.hid (hHeld.2.1.out.ext hb), HKP.out _ _ hHeld.2.2 hb⟩) (fun hHeld => ?_)
    clear hK K
    try simp only [Act.put, List.setIfInBounds_toArray, List.set_cons_zero, List.set_cons_succ]
    refine' text_chunk 5 (by kernel_rfl) hHeld ?ck4 ?cr4
    case ck4 =>
      intro W hSw
      have hSW := hSw
      try dsimp only at hSW
      clear hSw
      simp only [List.take_succ_cons, List.take_zero, List.drop_succ_cons, List.drop_zero]
      repeat (go_big_quiet_step (fail))
      exact wpQuiet_nil rfl
    simp only [List.take_succ_cons, List.take_zero, List.drop_succ_cons, List.drop_zero]
    refine text_done ?_
    have hX := hHeld.2.2
    have HX9 := Lib.hid (of_and10 hX)
    clear hHeld hX g1 g2 r0 r1 r2 r3 r4 r5 r6
    obtain ⟨⟨g1, g2⟩, r0, r1, r2, r3, r4, r5, r6⟩ := HP.out.ext HX9.out
    replace HE := Lib.hid (HE.out.trans HX9.out)
    replace HP := Lib.hid (HP.out.ext HX9.out)
    go_wp2_with fail
    refine (C36.out _ HE.out).mono ?_
    rintro e w6 ⟨rfl, hb⟩
    obtain ⟨⟨g1, g2⟩, r0, r1, r2, r3, r4, r5, r6⟩ := HP.out.ext hb
    have HE := Lib.hid (HE.out.trans hb)
    have HP := Lib.hid (HP.out.ext hb)
    clear hb
    go_wp2_with fail
    refine (C28.out _ HE.out).mono ?_
    rintro e w7 ⟨hb, ⟨he, -⟩ | ⟨-, v, c, rfl, hv, hc1, hc2⟩⟩
    · exact absurd rfl he
    have HE := Lib.hid (HE.out.trans hb)
    have HV := Lib.hid hv; have HC1 := Lib.hid hc1
    have hso := HSOME.out c hc1
    rw [hc2] at hso
    clear hb hv hc2 g1 g2 r0 r1 r2 r3 r4 r5 r6
    obtain ⟨hl5, av, capv, hve⟩ := HV.out.shape
    subst hve
    have hcl6 := HC5.out c HC1.out
    obtain ⟨ln, hln'⟩ : ∃ ln, ln = (lgI c).length := ⟨_, rfl⟩
    rw [← hln'] at HV hl5 ⊢
    have hln2 : ln = c.length := by rw [hln', lgI_len]
    have HLN := Lib.hid hln'; have HLN2 := Lib.hid hln2
    have hl60 : ln ≤ 60 := by omega
    clear hln' hln2 hc1 hcl6
    by_cases hL0 : L = 0
    · have hLb : (L == 0) = true := by simpa using hL0
      clear hL0 hso
      go_wp2_with fail
      refine (works17 _).mono ?_
      rintro e w9 ⟨rfl, hb⟩
      have HE := Lib.hid (HE.out.trans hb); clear hb
      go_wp2
      go_ret
      exact ⟨rfl, HE.out⟩
    have hLb : (L == 0) = false := by simpa using hL0
    have HSO := Lib.hid (hso (by have := HL.out; omega))
    clear hso hL0
    go_wp2_with fail
    go_loopw [18] (fun s wr => ∃ k : Nat, k ≤ ln ∧ s = .int .i64 (k : Int) ∧ Hid (∀ q ∈ c.take k, ¬ (q.1 < p ∧ p < q.2)) ∧ Hid (Ext w7 wr)) (fun s wr => ln - (intV s).toNat)
    case atStart => exact ⟨0, Nat.zero_le _, rfl, Lib.hid (by simp), Lib.hid (Ext.refl _)⟩
    case round =>
      obtain ⟨k, hk, rfl, hA, hZ⟩ := hrel
      by_cases hlk : k < ln
      · obtain ⟨⟨i, j⟩, hq⟩ := get_some (show k < c.length by rw [← HLN2.out]; exact hlk)
        have hq2 : (lgI c)[k]? = some ((i : Int), (j : Int)) := by unfold lgI; rw [List.getElem?_map, hq]; rfl
        obtain ⟨b2, off, p2, rfl, hq3, z1, z2⟩ := (HV.out.ext hZ.out).at (show k < (lgI c).length by rw [← HLN.out]; exact hlk)
        rw [hq2] at hq3
        cases hq3
        simp only at z1 z2
        have HTK := Lib.hid (take_snoc hq)
        have hka : (0 : Int) ≤ (k : Int) := by omega
        have hkb : (k : Int) < (ln : Int) := by omega
        have htk : (k : Int).toNat = k := by omega
        clear hq hq2
        by_cases hia : i < p
        · have hia2 : decide (i < p) = true := by simpa using hia
          by_cases hja : p < j
          · have hja2 : decide (p < j) = true := by simpa using hja
            have HE := Lib.hid (HE.out.trans hZ.out)
            go_wp2_with fail
            refine (works17 _).mono ?_
            rintro e w9 ⟨rfl, hb⟩
            have HE := Lib.hid (HE.out.trans hb); clear hb
            go_wp2
            go_ret
            exact ⟨rfl, HE.out⟩
          · have hja2 : decide (p < j) = false := by simpa using hja
            have HN := Lib.hid (show ∀ q ∈ c.take (k + 1), ¬ (q.1 < p ∧ p < q.2) by
              rw [HTK.out]
              intro q hq
              rcases List.mem_append.1 hq with hq | hq
              · exact hA.out q hq
              · simp at hq; subst hq; exact fun h => hja h.2)
            go_wp2_with fail
            go_roundw
            case rel => exact ⟨k + 1, by omega, by go_num, HN, hZ⟩
            case measure => simp [intV]; omega
        · have hia2 : decide (i < p) = false := by simpa using hia
          have HN := Lib.hid (show ∀ q ∈ c.take (k + 1), ¬ (q.1 < p ∧ p < q.2) by
            rw [HTK.out]
            intro q hq
            rcases List.mem_append.1 hq with hq | hq
            · exact hA.out q hq
            · simp at hq; subst hq; exact fun h => hia h.1)
          go_wp2_with fail
          go_roundw
          case rel => exact ⟨k + 1, by omega, by go_num, HN, hZ⟩
          case measure => simp [intV]; omega
      · exfalso
        obtain ⟨q, hq, hq1, hq2⟩ := HSO.out
        have hk2 : k = c.length := by rw [← HLN2.out]; omega
        have hA2 := hA.out
        rw [hk2, List.take_length] at hA2
        exact hA2 q hq ⟨hq1, hq2⟩
end Go.Proofs.Ytcgheakadfjofaa
